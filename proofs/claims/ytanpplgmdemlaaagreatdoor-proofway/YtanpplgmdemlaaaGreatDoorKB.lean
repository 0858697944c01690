import Derived.Test.YtanpplgmdemlaaaGreatDoorKA
import Derived.Test.YtanpplgmdemlaaaGreatDoorWZ
import Derived.Test.YtanpplgmdemlaaaGreatDoorW14
import Derived.Test.YtanpplgmdemlaaaGreatDoorU
import Derived.Test.YtanpplgmdemlaaaGreatDoorWY
namespace Go.Proofs.YtanpplgmdemlaaaGreatDoor
open Go.RowKit
set_option linter.unusedVariables false
set_option linter.unusedSimpArgs false

theorem AllF.drop {P : Nd → Fo → Prop} : ∀ (n : Nat) {f : Fo}, AllF P f → AllF P (dropFo n f)
  | 0, _, h => h
  | _ + 1, .nil, _ => trivial
  | n + 1, .node _ _ _ _ r, h => AllF.drop n h.2

theorem RepF.drop {w : World} {B : Nat} : ∀ (n : Nat) {f : Fo} {b o : Nat}, RepF w B f b o → RepF w B (dropFo n f) b (o + n * 4)
  | 0, f, b, o, h => by simpa [dropFo] using h
  | n + 1, .nil, _, _, _ => trivial
  | n + 1, .node _ _ _ _ r, b, o, h => by
    have := RepF.drop n h.2.2.2.2.2.2
    rw [dropFo, show o + (n + 1) * 4 = o + 4 + n * 4 from by omega]; exact this

def WithinEnd (w : World) (B : Nat) (a : Nd) (l : Fo) (e : Ending) (w' : World) : Prop :=
  Below w.heap.size w w' ∧ ∃ A' c' b' o', e = .returned (.slice A' (flen (dropFo (skipOf a.kind) l)) c') ∧ (flen (dropFo (skipOf a.kind) l) = 0 ∨ A' = some ⟨b', o', none⟩) ∧ RepF w' B (dropFo (skipOf a.kind) l) b' o'

set_option maxRecDepth 20000 in
set_option maxHeartbeats 1000000 in
/-- The kids that come out. -/
theorem within_anyK (a : Nd) (l : Fo) (v : Value) (w : World) (B : Nat) (hv : RepV w B a l v) (hB : B ≤ w.heap.size) (hk : (flen l : Int) = kidsOf a.kind) :
    Calls Tryz.prog 57 #[v] w fun e w' => WithinEnd w B a l e w' := by
  obtain ⟨hf, A, cap, b, o, rfl, hn, hA, hr⟩ := hv
  have HA : Hid (flen l = 0 ∨ A = some ⟨b, o, none⟩) := hA
  have hba : Below w.heap.size w (w.alloc (.cells #[.int .i64 a.kind, .int .i64 a.n, .string a.s, .slice A (flen l) cap] 27)) := Below.alloc (Below.refl _ _) (Nat.le_refl _) _
  have HR : Hid (RepF (w.alloc (.cells #[.int .i64 a.kind, .int .i64 a.n, .string a.s, .slice A (flen l) cap] 27)) B l b o) := hr.below (hba.mono hB)
  have hk2 := kidsOf_le a.kind
  clear hA hr
  go_enter Tryz.func57, Tryz.ntmps57
  by_cases h7 : a.kind = 7
  · have e7 : skipOf a.kind = 0 := by rw [skipOf, if_pos h7]
    have k7 : (a.kind == 7) = true := by simp [h7]
    have E7 : Hid (skipOf a.kind = 0) := e7
    clear h7 hk hk2 e7
    go_wp2_with fail
    go_ret
    unfold WithinEnd
    rw [E7.out]
    exact ⟨hba, A, cap, b, o, rfl, HA.out, HR.out⟩
  · by_cases h6 : a.kind = 6
    · have e6 : skipOf a.kind = 1 := by rw [skipOf, if_neg h7, if_pos h6]
      have hl2 : flen l = 2 := by rw [h6] at hk; simp [kidsOf] at hk; omega
      have k7 : (a.kind == 7) = false := by simp [h7]
      have k6 : (a.kind == 6) = true := by simp [h6]
      obtain rfl : A = some ⟨b, o, none⟩ := by rcases HA.out with h | h; omega; exact h
      have hc2 : 2 ≤ cap := by omega
      have hc1 : (cap == 1) = false := by simp; omega
      have hf1 : flen (dropFo (skipOf a.kind) l) = 1 := by rw [flen_drop, e6]; omega
      have HL : Hid (flen l = 2) := hl2
      have HF1 : Hid (flen (dropFo (skipOf a.kind) l) = 1) := hf1
      rw [HL.out] at HR hba ⊢
      have E6 : Hid (skipOf a.kind = 1) := e6
      clear h7 h6 hk hk2 hl2 hf1 hn e6
      go_wp2_with fail
      go_ret
      refine ⟨hba, some ⟨b, o + 4, none⟩, cap - 1, b, o + 4, by rw [HF1.out]; rfl, .inr rfl, ?_⟩
      rw [E6.out]
      exact RepF.drop 1 HR.out
    · have e3 : skipOf a.kind = 3 := by rw [skipOf, if_neg h7, if_neg h6]
      have k7 : (a.kind == 7) = false := by simp [h7]
      have k6 : (a.kind == 6) = false := by simp [h6]
      have h0 : flen (dropFo (skipOf a.kind) l) = 0 := by rw [flen_drop, e3]; omega
      have H0 : Hid (flen (dropFo (skipOf a.kind) l) = 0) := h0
      clear h7 h6 hk hk2 h0 e3
      go_wp2_with fail
      go_ret
      refine ⟨hba, none, 0, 0, 0, by rw [H0.out]; rfl, .inl H0.out, ?_⟩
      have h0 := H0.out
      cases hd : dropFo (skipOf a.kind) l with
      | nil => trivial
      | node => rw [hd] at h0; simp [flen] at h0

end Go.Proofs.YtanpplgmdemlaaaGreatDoor

namespace Go.Proofs.YtanpplgmdemlaaaGreatDoor
open Go.RowKit
set_option linter.unusedVariables false
set_option linter.unusedSimpArgs false

theorem owns_setCell {w : World} {base : Nat} {e : TypeId} {size g n cap : Nat} {xs : List Value} (h : w.ownsRow base e size (.slice (some ⟨g, 0, none⟩) n cap) n xs) (j : Nat) (u : Value) :
    (w.setCell ⟨g, j, none⟩ u).ownsRow base e size (.slice (some ⟨g, 0, none⟩) n cap) n (xs.set j u) := by
  refine ⟨by rw [List.length_set]; exact h.1, ?_⟩
  rcases h.2 with ⟨h1, _⟩ | ⟨g', cap', cur, h1, h2, h3, h4, h5, h6, h7⟩
  · cases h1
  · injection h1 with e1 e2 e3
    injection e1 with e1
    injection e1 with e1
    subst e1 e3
    refine .inr ⟨g, cap, cur.setIfInBounds j u, rfl, h2, ?_, h4, h5, by simpa using h6, ?_⟩
    · simp [World.setCell, Array.getElem?_modify, h3]
    · rw [Array.toList_setIfInBounds, List.take_set, h7]

theorem set_last4 (xs : List Value) (z0 z1 z2 z3 u0 u1 u2 u3 : Value) (n : Nat) (hn : xs.length = n) :
    ((((xs ++ [z0, z1, z2, z3]).set n u0).set (n + 1) u1).set (n + 2) u2).set (n + 3) u3 = xs ++ [u0, u1, u2, u3] := by
  subst hn
  rw [List.set_append_right _ _ (by omega), List.set_append_right _ _ (by simp), List.set_append_right _ _ (by simp), List.set_append_right _ _ (by simp)]
  simp [Nat.add_sub_cancel_left]

/-- Where 'learn' stands: list's variable in block B, the map in B + 1, known's variable in B + 2, learn's in B + 3, list's row from B + 4 on. -/
structure LSt (w : World) (B : Nat) (lv : Value) (ks : List Kd) : Prop where
  c0 : w.cell? ⟨B, 0, none⟩ = some lv
  f0 : w.frozen? ⟨B, 0, none⟩ = false
  c2 : w.cell? ⟨B + 2, 0, none⟩ = some (.map (some (B + 1)))
  c3 : w.cell? ⟨B + 3, 0, none⟩ = some (.func (.func 56) #[] #[.pointer (some ⟨B + 2, 0, none⟩), .pointer (some ⟨B, 0, none⟩), .pointer (some ⟨B + 3, 0, none⟩)])
  ms : MapS w (B + 1) (ks.map fun k => keyS k.a k.l)
  own : w.ownsRow (B + 4) 27 4 lv ks.length (rowOf ks)
  ok : ∀ k ∈ ks, k.Ok w (fun b => b < B) ∧ may k.a k.l = true
  sz : B + 4 ≤ w.heap.size

/-- All blocks but list's variable, the map and list's row are as they were. -/
structure LGrew (B : Nat) (w w' : World) (v v' : Value) : Prop where
  os : w'.os = w.os
  tape : w'.tape = w.tape
  output : w'.output = w.output
  size : w.heap.size ≤ w'.heap.size
  block : ∀ q, q < w.heap.size → q ≠ B → q ≠ B + 1 → v.ownBlock ≠ some q → w'.heap[q]? = w.heap[q]?
  at' : ∀ q, v'.ownBlock = some q → v.ownBlock = some q ∨ w.heap.size ≤ q

theorem LGrew.refl (B : Nat) (w : World) (v : Value) : LGrew B w w v v := ⟨rfl, rfl, rfl, Nat.le_refl _, fun _ _ _ _ _ => rfl, fun _ h => .inl h⟩
theorem LGrew.trans {B : Nat} {a b c : World} {u v x : Value} (h : LGrew B a b u v) (k : LGrew B b c v x) : LGrew B a c u x := by
  refine ⟨k.os.trans h.os, k.tape.trans h.tape, k.output.trans h.output, Nat.le_trans h.size k.size, fun i hi h1 h2 hu => ?_, fun q hq => ?_⟩
  · rw [k.block i (Nat.lt_of_lt_of_le hi h.size) h1 h2 (fun e => ?_), h.block i hi h1 h2 hu]
    rcases h.at' i e with e1 | e1
    · exact hu e1
    · omega
  · rcases k.at' q hq with e | e
    · exact h.at' q e
    · exact .inr (Nat.le_trans h.size e)
theorem LGrew.below {B : Nat} {a b c : World} {u v : Value} (h : LGrew B a b u v) (k : Below b.heap.size b c) : LGrew B a c u v :=
  h.trans ⟨k.os, k.tape, k.output, k.size, fun i hi _ _ _ => k.block i hi, fun q hq => .inl hq⟩
theorem LGrew.toBelow {B : Nat} {w w' : World} {v v' : Value} (h : LGrew B w w' v v') (hv : ∀ q, v.ownBlock = some q → B ≤ q) (hB : B ≤ w.heap.size) : Below B w w' :=
  ⟨h.os, h.tape, h.output, h.size, fun i hi => h.block i (by omega) (by omega) (by omega) (fun e => by have := hv i e; omega)⟩

theorem LSt.below {w w' : World} {B : Nat} {lv : Value} {ks : List Kd} (h : LSt w B lv ks) (hb : Below w.heap.size w w') : LSt w' B lv ks := by
  have hs := h.sz
  exact ⟨by rw [hb.cell (by simp; omega)]; exact h.c0, by rw [hb.frozen (by simp; omega)]; exact h.f0, by rw [hb.cell (by simp; omega)]; exact h.c2, by rw [hb.cell (by simp; omega)]; exact h.c3, h.ms.block (hb.block _ (by omega)), owns_below h.own hb, fun k hk => ⟨(h.ok k hk).1.keep (fun _ h => h) (fun b o hb' => hb.cell (by simp; omega)), (h.ok k hk).2⟩, by have := hb.size; omega⟩

theorem keyS_inj {a b : Nd} {l m : Fo} : keyS a l = keyS b m ↔ keyT a l = keyT b m := by
  unfold keyS
  constructor
  · intro h; injection h with h; injection h
  · intro h; rw [h]

theorem mem_keys (ks : List Kd) (a : Nd) (l : Fo) : keyS a l ∈ (ks.map fun k => keyS k.a k.l) ↔ keyT a l ∈ (tms ks).map (fun x => keyT x.1 x.2) := by
  simp only [tms, List.map_map, List.mem_map, Function.comp]
  constructor
  · rintro ⟨k, hk, e⟩; exact ⟨k, hk, keyS_inj.1 e⟩
  · rintro ⟨k, hk, e⟩; exact ⟨k, hk, keyS_inj.2 e⟩

/-- All terms within may be, and their keys are short. -/
def DMay : Fo → Prop
  | .nil => True
  | .node _ _ a l r => may a l = true ∧ (keyT a l).length ≤ 1000000 ∧ DMay l ∧ DMay r

theorem DMay.drop : ∀ (n : Nat) {f : Fo}, DMay f → DMay (dropFo n f)
  | 0, _, h => h
  | _ + 1, .nil, _ => trivial
  | n + 1, .node _ _ _ _ r, h => DMay.drop n h.2.2.2
theorem nodes_drop : ∀ (n : Nat) (f : Fo), nodesF (dropFo n f) ≤ nodesF f
  | 0, _ => Nat.le_refl _
  | _ + 1, .nil => Nat.le_refl _
  | n + 1, .node _ _ _ l r => by have := nodes_drop n r; simp only [dropFo, nodesF]; omega

def LEnd (w : World) (B : Nat) (lv : Value) (ks : List Kd) (a : Nd) (l : Fo) (e : Ending) (w' : World) : Prop :=
  ∃ (lv' : Value) (ks' : List Kd), e = .returned (.tuple #[]) ∧ LSt w' B lv' ks' ∧ LGrew B w w' lv lv' ∧ tms ks' = learnT a l (tms ks) ∧ ks'.length ≤ ks.length + (1 + nodesF l)

def LOk (a : Nd) (l : Fo) : Prop := ∀ (v : Value) (B : Nat) (w : World) (lv : Value) (ks : List Kd), RepV w B a l v → may a l = true → (keyT a l).length ≤ 1000000 → DMay l → LSt w B lv ks → ks.length + (1 + nodesF l) ≤ 100000 → Tab10 B w →
    Calls Tryz.prog 56 #[v, .pointer (some ⟨B + 2, 0, none⟩), .pointer (some ⟨B, 0, none⟩), .pointer (some ⟨B + 3, 0, none⟩)] w fun e w' => LEnd w B lv ks a l e w'

end Go.Proofs.YtanpplgmdemlaaaGreatDoor

namespace Go.Proofs.YtanpplgmdemlaaaGreatDoor
open Go.RowKit
set_option linter.unusedVariables false
set_option linter.unusedSimpArgs false

/-- What the region leaves: list's row with the term, list's variable. -/
structure PutW (B g n cap5 : Nat) (xs : List Value) (w5 W : World) : Prop where
  os : W.os = w5.os
  tape : W.tape = w5.tape
  output : W.output = w5.output
  size : W.heap.size = w5.heap.size
  block : ∀ q, q ≠ g → q ≠ B → W.heap[q]? = w5.heap[q]?
  c0 : W.cell? ⟨B, 0, none⟩ = some (.slice (some ⟨g, 0, none⟩) n cap5)
  f0 : W.frozen? ⟨B, 0, none⟩ = false
  own : W.ownsRow (B + 4) 27 4 (.slice (some ⟨g, 0, none⟩) n cap5) n xs

theorem size_setK (w : World) (p : Addr) (u : Value) : (w.setCell p u).heap.size = w.heap.size := by simp [World.setCell]

theorem cell_far4 (w : World) (g o : Nat) (u0 u1 u2 u3 : Value) (p : Addr) (h : p.block ≠ g) : ((((w.setCell ⟨g, o, none⟩ u0).setCell ⟨g, o + 1, none⟩ u1).setCell ⟨g, o + 2, none⟩ u2).setCell ⟨g, o + 3, none⟩ u3).heap[p.block]? = w.heap[p.block]? := by
  rw [Below.heap_setCell _ _ _ _ h, Below.heap_setCell _ _ _ _ h, Below.heap_setCell _ _ _ _ h, Below.heap_setCell _ _ _ _ h]

theorem putW_A {B g n cap5 : Nat} {xs : List Value} {m : Nat} {w5 : World} {u0 u1 u2 u3 v : Value} (hx : xs.length = m) (hg : g ≠ B) (m0 : w5.cell? ⟨B, 0, none⟩ = some v) (mf : w5.frozen? ⟨B, 0, none⟩ = false)
    (hown : w5.ownsRow (B + 4) 27 4 (.slice (some ⟨g, 0, none⟩) n cap5) n (xs ++ [.int .i64 0, .int .i64 0, .string ⟨#[]⟩, .slice none 0 0])) :
    PutW B g n cap5 (xs ++ [u0, u1, u2, u3]) w5 (((((w5.setCell ⟨g, m, none⟩ u0).setCell ⟨g, m + 1, none⟩ u1).setCell ⟨g, m + 2, none⟩ u2).setCell ⟨g, m + 3, none⟩ u3).setCell ⟨B, 0, none⟩ (.slice (some ⟨g, 0, none⟩) n cap5)) := by
  have h4 := owns_setCell (owns_setCell (owns_setCell (owns_setCell hown (m) u0) (m + 1) u1) (m + 2) u2) (m + 3) u3
  rw [set_last4 _ _ _ _ _ _ _ _ _ _ hx] at h4
  have hB := cell_far4 w5 g (m) u0 u1 u2 u3 ⟨B, 0, none⟩ (Ne.symm hg)
  have hc := (World.cell?_of_block hB).trans m0
  generalize hX : (((w5.setCell ⟨g, m, none⟩ u0).setCell ⟨g, m + 1, none⟩ u1).setCell ⟨g, m + 2, none⟩ u2).setCell ⟨g, m + 3, none⟩ u3 = X at *
  have hos : X.os = w5.os ∧ X.tape = w5.tape ∧ X.output = w5.output ∧ X.heap.size = w5.heap.size := by rw [← hX]; exact ⟨rfl, rfl, rfl, by rw [size_setK, size_setK, size_setK, size_setK]⟩
  have hfar : ∀ q, q ≠ g → X.heap[q]? = w5.heap[q]? := fun q h1 => by rw [← hX]; exact cell_far4 w5 g m u0 u1 u2 u3 ⟨q, 0, none⟩ h1
  clear hX
  refine ⟨hos.1, hos.2.1, hos.2.2.1, by rw [size_setK]; exact hos.2.2.2, fun q h1 h2 => ?_, World.cell?_setCell_same _ _ _ hc, ?_, ownsRow_setCell_below h4 (show B < B + 4 by omega) _⟩
  · rw [Below.heap_setCell _ _ _ _ h2]; exact hfar q h1
  · rw [World.frozen?_setCell]; exact (World.frozen?_of_block hB).trans mf

theorem putW_B {B g n cap5 : Nat} {xs : List Value} {m : Nat} {w5 : World} {u0 u1 u2 u3 v : Value} (hx : xs.length = m) (hg : g ≠ B) (m0 : w5.cell? ⟨B, 0, none⟩ = some v) (mf : w5.frozen? ⟨B, 0, none⟩ = false)
    (hown : w5.ownsRow (B + 4) 27 4 (.slice (some ⟨g, 0, none⟩) n cap5) n (xs ++ [.int .i64 0, .int .i64 0, .string ⟨#[]⟩, .slice none 0 0])) :
    PutW B g n cap5 (xs ++ [u0, u1, u2, u3]) w5 (((((w5.setCell ⟨B, 0, none⟩ (.slice (some ⟨g, 0, none⟩) n cap5)).setCell ⟨g, m, none⟩ u0).setCell ⟨g, m + 1, none⟩ u1).setCell ⟨g, m + 2, none⟩ u2).setCell ⟨g, m + 3, none⟩ u3) := by
  have h0 := ownsRow_setCell_below hown (a := ⟨B, 0, none⟩) (show B < B + 4 by omega) (.slice (some ⟨g, 0, none⟩) n cap5)
  have hc0 := World.cell?_setCell_same w5 ⟨B, 0, none⟩ (.slice (some ⟨g, 0, none⟩) n cap5) m0
  have hf0 : (w5.setCell ⟨B, 0, none⟩ (.slice (some ⟨g, 0, none⟩) n cap5)).frozen? ⟨B, 0, none⟩ = false := by rw [World.frozen?_setCell]; exact mf
  have hos0 : (w5.setCell ⟨B, 0, none⟩ (.slice (some ⟨g, 0, none⟩) n cap5)).os = w5.os ∧ (w5.setCell ⟨B, 0, none⟩ (.slice (some ⟨g, 0, none⟩) n cap5)).tape = w5.tape ∧ (w5.setCell ⟨B, 0, none⟩ (.slice (some ⟨g, 0, none⟩) n cap5)).output = w5.output ∧ (w5.setCell ⟨B, 0, none⟩ (.slice (some ⟨g, 0, none⟩) n cap5)).heap.size = w5.heap.size := ⟨rfl, rfl, rfl, size_setK _ _ _⟩
  have hfar0 : ∀ q, q ≠ B → (w5.setCell ⟨B, 0, none⟩ (.slice (some ⟨g, 0, none⟩) n cap5)).heap[q]? = w5.heap[q]? := fun q h2 => Below.heap_setCell _ _ _ _ h2
  generalize w5.setCell ⟨B, 0, none⟩ (.slice (some ⟨g, 0, none⟩) n cap5) = Y at *
  have h4 := owns_setCell (owns_setCell (owns_setCell (owns_setCell h0 m u0) (m + 1) u1) (m + 2) u2) (m + 3) u3
  rw [set_last4 _ _ _ _ _ _ _ _ _ _ hx] at h4
  have hB := cell_far4 Y g m u0 u1 u2 u3 ⟨B, 0, none⟩ (Ne.symm hg)
  have hc := (World.cell?_of_block hB).trans hc0
  have hf := (World.frozen?_of_block hB).trans hf0
  have hfar : ∀ q, q ≠ g → ((((Y.setCell ⟨g, m, none⟩ u0).setCell ⟨g, m + 1, none⟩ u1).setCell ⟨g, m + 2, none⟩ u2).setCell ⟨g, m + 3, none⟩ u3).heap[q]? = Y.heap[q]? := fun q h1 => cell_far4 Y g m u0 u1 u2 u3 ⟨q, 0, none⟩ h1
  have hos : ((((Y.setCell ⟨g, m, none⟩ u0).setCell ⟨g, m + 1, none⟩ u1).setCell ⟨g, m + 2, none⟩ u2).setCell ⟨g, m + 3, none⟩ u3).os = Y.os ∧ ((((Y.setCell ⟨g, m, none⟩ u0).setCell ⟨g, m + 1, none⟩ u1).setCell ⟨g, m + 2, none⟩ u2).setCell ⟨g, m + 3, none⟩ u3).tape = Y.tape ∧ ((((Y.setCell ⟨g, m, none⟩ u0).setCell ⟨g, m + 1, none⟩ u1).setCell ⟨g, m + 2, none⟩ u2).setCell ⟨g, m + 3, none⟩ u3).output = Y.output ∧ ((((Y.setCell ⟨g, m, none⟩ u0).setCell ⟨g, m + 1, none⟩ u1).setCell ⟨g, m + 2, none⟩ u2).setCell ⟨g, m + 3, none⟩ u3).heap.size = Y.heap.size := ⟨rfl, rfl, rfl, by rw [size_setK, size_setK, size_setK, size_setK]⟩
  generalize (((Y.setCell ⟨g, m, none⟩ u0).setCell ⟨g, m + 1, none⟩ u1).setCell ⟨g, m + 2, none⟩ u2).setCell ⟨g, m + 3, none⟩ u3 = X at *
  exact ⟨hos.1.trans hos0.1, hos.2.1.trans hos0.2.1, hos.2.2.1.trans hos0.2.2.1, hos.2.2.2.trans hos0.2.2.2, fun q h1 h2 => (hfar q h1).trans (hfar0 q h2), hc, hf, h4⟩

/-- learn's state behind it. -/
theorem learn_put {w1 w2 w5 W : World} {B g cap5 : Nat} {LA : Option Addr} {lc : Nat} {ks : List Kd} {kd : Kd} (hst : LSt w1 B (.slice LA ks.length lc) ks) (ho2 : Only (B + 1) w1 w2) (hms : MapS w2 (B + 1) (keyS kd.a kd.l :: ks.map fun k => keyS k.a k.l))
    (h5 : w5.os = w2.os ∧ w5.tape = w2.tape ∧ w5.output = w2.output) (hs5 : w2.heap.size + 1 ≤ w5.heap.size) (hblk : ∀ q, q < w2.heap.size → (Value.slice LA ks.length lc).ownBlock ≠ some q → w5.heap[q]? = w2.heap[q]?)
    (hg4 : B + 4 ≤ g) (hat : (Value.slice (some ⟨g, 0, none⟩) (ks.length + 1) cap5).ownBlock = (Value.slice LA ks.length lc).ownBlock ∨ w2.heap.size ≤ g) (hP : PutW B g (ks.length + 1) cap5 (rowOf ks ++ kd.cells) w5 W)
    (hkd : kd.Ok w1 (fun b => b < B)) (hmay : may kd.a kd.l = true) :
    LSt W B (.slice (some ⟨g, 0, none⟩) (ks.length + 1) cap5) (ks ++ [kd]) ∧ LGrew B w1 W (.slice LA ks.length lc) (.slice (some ⟨g, 0, none⟩) (ks.length + 1) cap5) := by
  have hs1 := hst.sz
  have hs2 := ho2.size
  have hvk := hst.own.lt
  have hnB : ∀ q, q < B + 4 → (Value.slice LA ks.length lc).ownBlock ≠ some q := fun q hq e => by have := hvk q e; omega
  have far : ∀ q, q < w1.heap.size → q ≠ B → q ≠ B + 1 → (Value.slice LA ks.length lc).ownBlock ≠ some q → W.heap[q]? = w1.heap[q]? := fun q h1 h2 h3 h4 => by
    rw [hP.block q ?_ h2, hblk q (by omega) h4, ho2.block q h1 h3]
    rintro rfl
    rcases hat with h | h
    · exact h4 (by rw [← h]; rfl)
    · omega
  have low : ∀ q, q < B → W.heap[q]? = w1.heap[q]? := fun q hq => far q (by omega) (by omega) (by omega) (hnB q (by omega))
  refine ⟨⟨hP.c0, hP.f0, ?_, ?_, ?_, ?_, ?_, by rw [hP.size]; omega⟩, ⟨hP.os.trans (h5.1.trans ho2.os), hP.tape.trans (h5.2.1.trans ho2.tape), hP.output.trans (h5.2.2.trans ho2.output), by rw [hP.size]; omega, far, fun q hq => ?_⟩⟩
  · exact (World.cell?_of_block (far (B + 2) (by omega) (by omega) (by omega) (hnB _ (by omega)))).trans hst.c2
  · exact (World.cell?_of_block (far (B + 3) (by omega) (by omega) (by omega) (hnB _ (by omega)))).trans hst.c3
  · refine (hms.block (w' := W) ?_).same (fun s => by simp [or_comm])
    rw [hP.block (B + 1) (by omega) (by omega), hblk (B + 1) (by omega) (hnB _ (by omega))]
  · rw [rowOf_append, List.length_append]
    have := hP.own
    simpa [rowOf] using this
  · intro k hk
    have hok : k.Ok w1 (fun b => b < B) ∧ may k.a k.l = true := by
      rcases List.mem_append.1 hk with h | h
      · exact hst.ok k h
      · simp at h; subst h; exact ⟨hkd, hmay⟩
    exact ⟨hok.1.keep (fun _ h => h) (fun b o hb => World.cell?_of_block (low b hb)), hok.2⟩
  · rcases hat with h | h
    · exact .inl (by rw [← h]; exact hq)
    · simp [Value.ownBlock] at hq; exact .inr (by omega)

theorem sizeOf_termsK (w : World) : (Go.sizeOf 24).run Tryz.prog w = .ok 1 w := by kernel_rfl

end Go.Proofs.YtanpplgmdemlaaaGreatDoor
