import Derived.Test.YtldpnhlifgkmiaaDoorK6
import Derived.Test.YtldpnhlifgkmiaaDoorU3
import Derived.Test.YtldpnhlifgkmiaaDoorW18
namespace Go.Proofs.YtldpnhlifgkmiaaDoor
open Go.RowKit
set_option linter.unusedVariables false
set_option linter.unusedSimpArgs false

theorem owns_setCell {w : World} {base : Nat} {e : TypeId} {size g n cap : Nat} {xs : List Value} (h : w.ownsRow base e size (.slice (some ⟨g, 0, none⟩) n cap) n xs) (j : Nat) (u : Value) :
    (w.setCell ⟨g, j, none⟩ u).ownsRow base e size (.slice (some ⟨g, 0, none⟩) n cap) n (xs.set j u) := by
  refine ⟨by rw [List.length_set]; exact h.1, ?_⟩
  rcases h.2 with ⟨h1, _⟩ | ⟨g', cap', cur, h1, h2, h3, h4, h5, h6, h7⟩
  · cases h1
  · injection h1 with e1 e2 e3
    injection e1 with e1
    injection e1 with e1
    subst e1 e3
    refine .inr ⟨g, cap, cur.setIfInBounds j u, rfl, h2, ?_, h4, h5, by simpa using h6, ?_⟩
    · simp [World.setCell, Array.getElem?_modify, h3]
    · rw [Array.toList_setIfInBounds, List.take_set, h7]

theorem set_last4 (xs : List Value) (z0 z1 z2 z3 u0 u1 u2 u3 : Value) (n : Nat) (hn : xs.length = n) :
    ((((xs ++ [z0, z1, z2, z3]).set n u0).set (n + 1) u1).set (n + 2) u2).set (n + 3) u3 = xs ++ [u0, u1, u2, u3] := by
  subst hn
  rw [List.set_append_right _ _ (by omega), List.set_append_right _ _ (by simp), List.set_append_right _ _ (by simp), List.set_append_right _ _ (by simp)]
  simp [Nat.add_sub_cancel_left]

/-- Where 'learn' stands: list's variable in block B, the map in B + 1, known's variable in B + 2, learn's in B + 3, list's row from B + 4 on. -/
structure LSt (w : World) (B : Nat) (lv : Value) (ks : List Kd) : Prop where
  c0 : w.cell? ⟨B, 0, none⟩ = some lv
  f0 : w.frozen? ⟨B, 0, none⟩ = false
  c2 : w.cell? ⟨B + 2, 0, none⟩ = some (.map (some (B + 1)))
  c3 : w.cell? ⟨B + 3, 0, none⟩ = some (.func (.func 42) #[] #[.pointer (some ⟨B + 2, 0, none⟩), .pointer (some ⟨B, 0, none⟩), .pointer (some ⟨B + 3, 0, none⟩)])
  ms : MapS w (B + 1) (ks.map fun k => keyS k.a k.l)
  own : w.ownsRow (B + 4) 29 4 lv ks.length (rowOf ks)
  ok : ∀ k ∈ ks, k.Ok w (fun b => b < B) ∧ may k.a k.l = true
  sz : B + 4 ≤ w.heap.size

/-- All blocks but list's variable, the map and list's row are as they were. -/
structure LGrew (B : Nat) (w w' : World) (v v' : Value) : Prop where
  os : w'.os = w.os
  tape : w'.tape = w.tape
  output : w'.output = w.output
  size : w.heap.size ≤ w'.heap.size
  block : ∀ q, q < w.heap.size → q ≠ B → q ≠ B + 1 → v.ownBlock ≠ some q → w'.heap[q]? = w.heap[q]?
  at' : ∀ q, v'.ownBlock = some q → v.ownBlock = some q ∨ w.heap.size ≤ q

theorem LGrew.refl (B : Nat) (w : World) (v : Value) : LGrew B w w v v := ⟨rfl, rfl, rfl, Nat.le_refl _, fun _ _ _ _ _ => rfl, fun _ h => .inl h⟩
theorem LGrew.trans {B : Nat} {a b c : World} {u v x : Value} (h : LGrew B a b u v) (k : LGrew B b c v x) : LGrew B a c u x := by
  refine ⟨k.os.trans h.os, k.tape.trans h.tape, k.output.trans h.output, Nat.le_trans h.size k.size, fun i hi h1 h2 hu => ?_, fun q hq => ?_⟩
  · rw [k.block i (Nat.lt_of_lt_of_le hi h.size) h1 h2 (fun e => ?_), h.block i hi h1 h2 hu]
    rcases h.at' i e with e1 | e1
    · exact hu e1
    · omega
  · rcases k.at' q hq with e | e
    · exact h.at' q e
    · exact .inr (Nat.le_trans h.size e)
theorem LGrew.below {B : Nat} {a b c : World} {u v : Value} (h : LGrew B a b u v) (k : Below b.heap.size b c) : LGrew B a c u v :=
  h.trans ⟨k.os, k.tape, k.output, k.size, fun i hi _ _ _ => k.block i hi, fun q hq => .inl hq⟩
theorem LGrew.toBelow {B : Nat} {w w' : World} {v v' : Value} (h : LGrew B w w' v v') (hv : ∀ q, v.ownBlock = some q → B ≤ q) (hB : B ≤ w.heap.size) : Below B w w' :=
  ⟨h.os, h.tape, h.output, h.size, fun i hi => h.block i (by omega) (by omega) (by omega) (fun e => by have := hv i e; omega)⟩

theorem LSt.below {w w' : World} {B : Nat} {lv : Value} {ks : List Kd} (h : LSt w B lv ks) (hb : Below w.heap.size w w') : LSt w' B lv ks := by
  have hs := h.sz
  exact ⟨by rw [hb.cell (by simp; omega)]; exact h.c0, by rw [hb.frozen (by simp; omega)]; exact h.f0, by rw [hb.cell (by simp; omega)]; exact h.c2, by rw [hb.cell (by simp; omega)]; exact h.c3, h.ms.block (hb.block _ (by omega)), owns_below h.own hb, fun k hk => ⟨(h.ok k hk).1.keep (fun _ h => h) (fun b o hb' => hb.cell (by simp; omega)), (h.ok k hk).2⟩, by have := hb.size; omega⟩

theorem keyS_inj {a b : Nd} {l m : Fo} : keyS a l = keyS b m ↔ keyT a l = keyT b m := by
  unfold keyS
  constructor
  · intro h; injection h with h; injection h
  · intro h; rw [h]

theorem mem_keys (ks : List Kd) (a : Nd) (l : Fo) : keyS a l ∈ (ks.map fun k => keyS k.a k.l) ↔ keyT a l ∈ (tms ks).map (fun x => keyT x.1 x.2) := by
  simp only [tms, List.map_map, List.mem_map, Function.comp]
  constructor
  · rintro ⟨k, hk, e⟩; exact ⟨k, hk, keyS_inj.1 e⟩
  · rintro ⟨k, hk, e⟩; exact ⟨k, hk, keyS_inj.2 e⟩

/-- All terms within may be, and their keys are short. -/
def DMay : Fo → Prop
  | .nil => True
  | .node _ _ a l r => may a l = true ∧ (keyT a l).length ≤ 1000000 ∧ DMay l ∧ DMay r

theorem DMay.drop : ∀ (n : Nat) {f : Fo}, DMay f → DMay (dropFo n f)
  | 0, _, h => h
  | _ + 1, .nil, _ => trivial
  | n + 1, .node _ _ _ _ r, h => DMay.drop n h.2.2.2
theorem nodes_drop : ∀ (n : Nat) (f : Fo), nodesF (dropFo n f) ≤ nodesF f
  | 0, _ => Nat.le_refl _
  | _ + 1, .nil => Nat.le_refl _
  | n + 1, .node _ _ _ l r => by have := nodes_drop n r; simp only [dropFo, nodesF]; omega

def LEnd (w : World) (B : Nat) (lv : Value) (ks : List Kd) (a : Nd) (l : Fo) (e : Ending) (w' : World) : Prop :=
  ∃ (lv' : Value) (ks' : List Kd), e = .returned (.tuple #[]) ∧ LSt w' B lv' ks' ∧ LGrew B w w' lv lv' ∧ tms ks' = learnT a l (tms ks) ∧ ks'.length ≤ ks.length + (1 + nodesF l)

def LOk (a : Nd) (l : Fo) : Prop := ∀ (v : Value) (B : Nat) (w : World) (lv : Value) (ks : List Kd), RepV w B a l v → may a l = true → (keyT a l).length ≤ 1000000 → DMay l → LSt w B lv ks → ks.length + (1 + nodesF l) ≤ 100000 → Tab10 B w →
    Calls Tryd.prog 42 #[v, .pointer (some ⟨B + 2, 0, none⟩), .pointer (some ⟨B, 0, none⟩), .pointer (some ⟨B + 3, 0, none⟩)] w fun e w' => LEnd w B lv ks a l e w'

end Go.Proofs.YtldpnhlifgkmiaaDoor
