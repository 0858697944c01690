import Derived.Test.YtbjneijgbikcpaaDoorK14
import Derived.Test.YtbjneijgbikcpaaDoorA2
import Derived.Test.YtbjneijgbikcpaaDoorK1
namespace Go.Proofs.YtbjneijgbikcpaaDoor
open Go.RowKit
set_option linter.unusedVariables false
set_option linter.unusedSimpArgs false

def lenV : Value → Nat
  | .slice _ n _ => n
  | _ => 0

/-- A list of terms in a block of one's own, that is not g. -/
def SlO (w : World) (B g : Nat) (v : Value) (ks : List Kd) : Prop :=
  (ks = [] ∧ v = .slice none 0 0) ∨ ∃ q c, v = .slice (some ⟨q, 0, none⟩) ks.length c ∧ 0 < ks.length ∧ ks.length ≤ c ∧ c ≤ 9223372036854775807 ∧ B ≤ q ∧ q ≠ g ∧ q < w.heap.size ∧ ∀ t, t < 4 * ks.length → w.cell? ⟨q, t, none⟩ = (rowOf ks)[t]?

theorem SlO.keep {w w' : World} {B g g' : Nat} {v : Value} {ks : List Kd} (h : SlO w B g v ks) (hb : ∀ q, q < w.heap.size → q ≠ g → w'.heap[q]? = w.heap[q]?) (hs : w.heap.size ≤ w'.heap.size) (hg : g' = g ∨ w.heap.size ≤ g') : SlO w' B g' v ks := by
  rcases h with h | ⟨q, c, h1, h2, h3, h4, h5, h6, h7, h8⟩
  · exact .inl h
  · exact .inr ⟨q, c, h1, h2, h3, h4, h5, by omega, by omega, fun t ht => by rw [World.cell?_of_block (w := w) (hb q h7 h6)]; exact h8 t ht⟩
theorem SlO.below {w w' : World} {B g : Nat} {v : Value} {ks : List Kd} (h : SlO w B g v ks) (hb : Below w.heap.size w w') : SlO w' B g v ks := h.keep (fun q hq _ => hb.block q hq) hb.size (.inl rfl)
theorem SlO.sln {w : World} {B g : Nat} {v : Value} {ks : List Kd} (h : SlO w B g v ks) (hk : ∀ k ∈ ks, k.Ok w (fun b => b < w.heap.size) ∧ k.Ar) : SlN w v ks := by
  rcases h with h | ⟨q, c, h1, h2, h3, h4, h5, h6, h7, h8⟩
  · exact .inl h
  · exact .inr ⟨q, c, h1, h2, h3, h4, h7, h8, hk⟩
theorem SlO.len {w : World} {B g : Nat} {v : Value} {ks : List Kd} (h : SlO w B g v ks) : ∃ A c, v = .slice A ks.length c ∧ (∀ q, v.ownBlock = some q → B ≤ q ∧ q ≠ g) := by
  rcases h with ⟨rfl, rfl⟩ | ⟨q, c, h1, h2, h3, h4, h5, h6, h7, h8⟩
  · exact ⟨none, 0, rfl, fun q hq => by simp [Value.ownBlock] at hq⟩
  · exact ⟨_, c, h1, fun q' hq => by rw [h1] at hq; simp [Value.ownBlock] at hq; omega⟩

theorem nodesK_len : ∀ ks : List Kd, ks.length ≤ nodesK ks
  | [] => Nat.le_refl _
  | k :: r => by have := nodesK_len r; simp [nodesK]; omega

def QRel (w : World) (ks : List Kd) (ov tv : Value) (wr : World) : Prop :=
  ∃ (out todo : List Kd) (g off cap : Nat), tv = .slice (some ⟨g, off, none⟩) todo.length cap ∧ OffR wr w.heap.size 4 g off todo.length cap (rowOf todo) ∧ SlO wr w.heap.size g ov out ∧
    (∀ k ∈ todo, k.Ok w (fun b => b < w.heap.size) ∧ may k.a k.l = true) ∧ (∀ k ∈ out, k.Ok w (fun b => b < w.heap.size) ∧ may k.a k.l = true) ∧ Below w.heap.size w wr ∧ QSpec (tms ks) (tms out) (tms todo) ∧ Rises out ∧ out.length + nodesK todo ≤ nodesK ks

def ROpenEnd (w : World) (ks : List Kd) (e : Ending) (w' : World) : Prop :=
  ∃ (L : List Kd) (u : Value), e = .returned u ∧ SlT w' u L ∧ (∀ k ∈ L, may k.a k.l = true) ∧ Rises L ∧ Clos (tms ks) (tms L) ∧ L.length ≤ nodesK ks ∧ Below w.heap.size w w'

theorem addOf_len {L L' : List Kd} {t : Kd} (h : AddOf L t L') : (L'.length = L.length ∧ L' = L ∧ InL (tms L) (nm (t.a, t.l))) ∨ (L'.length = L.length + 1 ∧ (∀ x ∈ tms L', x = (t.a, t.l) ∨ x ∈ tms L) ∧ (∀ x ∈ tms L, x ∈ tms L') ∧ InL (tms L') (nm (t.a, t.l))) := by
  obtain ⟨i, hi, hlt, ⟨h1, h2, rfl⟩ | ⟨h1, rfl⟩⟩ := h
  · exact .inl ⟨rfl, rfl, _, List.mem_map_of_mem (getD_mem h1), nm_iff.2 h2⟩
  · refine .inr ⟨by simp; omega, fun x hx => ?_, fun x hx => ?_, (t.a, t.l), by simp [tms], rfl⟩
    · rw [tms, List.mem_map] at hx
      obtain ⟨y, hy, rfl⟩ := hx
      rcases List.mem_append.1 hy with hy | hy
      · exact .inr (List.mem_map_of_mem (List.mem_of_mem_take hy))
      · rcases List.mem_cons.1 hy with rfl | hy
        · exact .inl rfl
        · exact .inr (List.mem_map_of_mem (List.mem_of_mem_drop hy))
    · rw [tms, List.mem_map] at hx
      obtain ⟨y, hy, rfl⟩ := hx
      refine List.mem_map_of_mem ?_
      rw [← List.take_append_drop i L] at hy
      rcases List.mem_append.1 hy with hy | hy
      · exact List.mem_append.2 (.inl hy)
      · exact List.mem_append.2 (.inr (List.mem_cons_of_mem _ hy))

theorem addOf_mem {L L' : List Kd} {t : Kd} (h : AddOf L t L') : ∀ y ∈ L', y = t ∨ y ∈ L := by
  obtain ⟨i, hi, hlt, ⟨h1, h2, rfl⟩ | ⟨h1, rfl⟩⟩ := h
  · exact fun y hy => .inr hy
  · intro y hy
    rcases List.mem_append.1 hy with hy | hy
    · exact .inr (List.mem_of_mem_take hy)
    · rcases List.mem_cons.1 hy with rfl | hy
      · exact .inl rfl
      · exact .inr (List.mem_of_mem_drop hy)

/-- The kids of a pair, as they lie. -/
theorem two_kids {w : World} {S : Nat → Prop} {k : Kd} (hk : k.Ok w S) (h2 : flen k.l = 2) : ∃ k1 k2 : Kd, kidL k.l = [(k1.a, k1.l), (k2.a, k2.l)] ∧ k1.Ok w S ∧ k2.Ok w S ∧ k.A = some ⟨k.b, k.o, none⟩ ∧ S k.b ∧ nodesF k.l = (1 + nodesF k1.l) + (1 + nodesF k2.l) ∧
    (w.cell? ⟨k.b, k.o, none⟩ = some (.int .i64 k1.a.kind) ∧ w.cell? ⟨k.b, k.o + 1, none⟩ = some (.int .i64 k1.a.n) ∧ w.cell? ⟨k.b, k.o + 2, none⟩ = some (.string k1.a.s) ∧ w.cell? ⟨k.b, k.o + 3, none⟩ = some (.slice k1.A (flen k1.l) k1.cap)) ∧
    (w.cell? ⟨k.b, k.o + 4, none⟩ = some (.int .i64 k2.a.kind) ∧ w.cell? ⟨k.b, k.o + 4 + 1, none⟩ = some (.int .i64 k2.a.n) ∧ w.cell? ⟨k.b, k.o + 4 + 2, none⟩ = some (.string k2.a.s) ∧ w.cell? ⟨k.b, k.o + 4 + 3, none⟩ = some (.slice k2.A (flen k2.l) k2.cap)) := by
  obtain ⟨_, _, hA, hr⟩ := hk
  have hS : S k.b := by
    cases hl : k.l with
    | nil => rw [hl] at h2; simp [flen] at h2
    | node x y a l r => rw [hl] at hr; exact hr.1
  obtain ⟨js, e, hok, hc⟩ := kds_of_rep k.l k.o hr
  have hj : js.length = 2 := by rw [← flen_foOf, ← e]; exact h2
  match js, hj with
  | [k1, k2], _ =>
    refine ⟨k1, k2, by rw [e]; rfl, hok k1 (by simp), hok k2 (by simp), by rcases hA with h | h; omega; exact h, hS, by rw [e]; simp only [foOf, nodesF]; omega, ⟨hc 0 (by simp), hc 1 (by simp), hc 2 (by simp), hc 3 (by simp)⟩, hc 4 (by simp), hc 5 (by simp), hc 6 (by simp), hc 7 (by simp)⟩

end Go.Proofs.YtbjneijgbikcpaaDoor
