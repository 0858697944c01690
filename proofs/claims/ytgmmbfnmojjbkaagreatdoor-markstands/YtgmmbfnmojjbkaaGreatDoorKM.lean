import Derived.Test.YtgmmbfnmojjbkaaGreatDoorAB
import Derived.MapKept
import Derived.Carry
namespace Go.Proofs.YtgmmbfnmojjbkaaGreatDoor
open Go.RowKit
set_option linter.unusedVariables false
set_option linter.unusedSimpArgs false

/-- In block r lies a map of the texts S, each to true. -/
def MapS (w : World) (r : Nat) (S : List ByteArray) : Prop :=
  ∃ (es : Array MapEntry) (clock : Nat), w.heap[r]? = some (.map es clock) ∧ (∀ s, s ∈ S ↔ ∃ e ∈ es.toList, e.key = .string s) ∧ ∀ e ∈ es.toList, ∃ s, e.key = .string s ∧ e.val = .bool true

theorem MapS.block {w w' : World} {r : Nat} {S : List ByteArray} (h : MapS w r S) (hb : w'.heap[r]? = w.heap[r]?) : MapS w' r S := by
  obtain ⟨es, clock, h1, h2⟩ := h
  exact ⟨es, clock, by rw [hb]; exact h1, h2⟩
theorem MapS.lt {w : World} {r : Nat} {S : List ByteArray} (h : MapS w r S) : r < w.heap.size := by
  obtain ⟨es, clock, h1, _⟩ := h
  exact (Array.getElem?_eq_some_iff.1 h1).1
theorem MapS.new (w : World) : MapS (w.alloc (.map #[] 0)) w.heap.size [] := ⟨#[], 0, heap_alloc_new w _, by simp, by simp⟩
theorem MapS.same {w : World} {r : Nat} {S S' : List ByteArray} (h : MapS w r S) (hs : ∀ s, s ∈ S ↔ s ∈ S') : MapS w r S' := by
  obtain ⟨es, clock, h1, h2, h3⟩ := h
  exact ⟨es, clock, h1, fun s => (hs s).symm.trans (h2 s), h3⟩

theorem MapS.find {w : World} {r : Nat} {S : List ByteArray} (h : MapS w r S) (s : ByteArray) :
    ∃ (es : Array MapEntry) (clock : Nat), w.heap[r]? = some (.map es clock) ∧ (∀ s, s ∈ S ↔ ∃ e ∈ es.toList, e.key = .string s) ∧ (∀ e ∈ es.toList, ∃ s, e.key = .string s ∧ e.val = .bool true) ∧
      ((Instr.findNow .string (.string s) es.toList 0 = some none ∧ s ∉ S) ∨ (∃ j, Instr.findNow .string (.string s) es.toList 0 = some (some (j, .bool true)) ∧ s ∈ S)) := by
  obtain ⟨es, clock, h1, h2, h3⟩ := h
  refine ⟨es, clock, h1, h2, h3, ?_⟩
  rcases MapKept.findNow_spec (d := .string) (k := .string s) trivial es.toList 0 (fun x hx => by obtain ⟨s', e, _⟩ := h3 x hx; rw [e]; trivial) with ⟨f1, f2⟩ | ⟨j, e, f1, f2, f3⟩
  · refine .inl ⟨f1, fun hs => ?_⟩
    obtain ⟨e, he, hk⟩ := (h2 s).1 hs
    exact f2 e he hk
  · have hm := List.mem_of_getElem? f2
    obtain ⟨s', e1, e2⟩ := h3 e hm
    exact .inr ⟨0 + j, by rw [f1, e2], (h2 s).2 ⟨e, hm, f3⟩⟩

theorem zero_bool (w : World) : (zeroValue 4).run Tryz.prog w = .ok (.bool false) w := by kernel_rfl

/-- known[s]. -/
theorem run_known {w : World} {r : Nat} {S : List ByteArray} (h : MapS w r S) (s : ByteArray) (b : Bool) (hb : b = true ↔ s ∈ S) :
    (Instr.lookup 75 (.map (some r)) (.string s) false).run Tryz.prog w = .ok (.bool b) w := by
  obtain ⟨es, clock, h1, h2, h3, hf⟩ := h.find s
  have hu : Tryz.prog.underlying 75 = some (.map 9 4) := by kernel_rfl
  have hck : (Instr.checkKey es.isEmpty 10000 9 (.string s)).run Tryz.prog w = .ok () w := MapKept.run_checkKey (d := .string) Tryz.underlying9 (show MapKept.IsKey .string (.string s) from trivial) es.isEmpty 9999
  rcases hf with ⟨f1, f2⟩ | ⟨j, f1, f2⟩
  · have : b = false := by cases b; rfl; exact absurd (hb.1 rfl) f2
    subst this
    simp [Instr.lookup, run_underlying hu, MapKept.run_getObj_map h1, hck, MapKept.run_findKey Tryz.underlying9 f1, zero_bool, Result.andThen]
  · have : b = true := hb.2 f2
    subst this
    simp [Instr.lookup, run_underlying hu, MapKept.run_getObj_map h1, hck, MapKept.run_findKey Tryz.underlying9 f1, Result.andThen]

/-- known[s] = true, where it is not there. -/
theorem run_mark {w : World} {r : Nat} {S : List ByteArray} (h : MapS w r S) (s : ByteArray) (hs : s ∉ S) :
    ∃ w', (Instr.mapUpdate 75 (.map (some r)) (.string s) (.bool true)).run Tryz.prog w = .ok () w' ∧ MapS w' r (s :: S) ∧ Only r w w' := by
  obtain ⟨es, clock, h1, h2, h3, hf⟩ := h.find s
  have hu : Tryz.prog.underlying 75 = some (.map 9 4) := by kernel_rfl
  have hck : (Instr.checkKey false 10000 9 (.string s)).run Tryz.prog w = .ok () w := MapKept.run_checkKey (d := .string) Tryz.underlying9 (show MapKept.IsKey .string (.string s) from trivial) false 9999
  rcases hf with ⟨f1, f2⟩ | ⟨j, f1, f2⟩
  · refine ⟨{ w with heap := w.heap.setIfInBounds r (.map (es.push { key := .string s, val := .bool true, born := clock }) (clock + 1)) }, ?_, ?_, ?_⟩
    · simp [Instr.mapUpdate, run_underlying hu, MapKept.run_getObj_map h1, hck, MapKept.run_findKey Tryz.underlying9 f1, MapKept.run_setObj_map _ h1, Result.andThen]
    · refine ⟨_, _, (MapKept.heap_set h1).1, fun s' => ?_, fun e he => ?_⟩
      · simp only [Array.toList_push, List.mem_append, List.mem_cons, List.not_mem_nil, or_false]
        constructor
        · rintro (rfl | h')
          · exact ⟨_, .inr rfl, rfl⟩
          · obtain ⟨e, he, hk⟩ := (h2 s').1 h'; exact ⟨e, .inl he, hk⟩
        · rintro ⟨e, he | rfl, hk⟩
          · exact .inr ((h2 s').2 ⟨e, he, hk⟩)
          · simp only [Value.string.injEq] at hk; exact .inl hk.symm
      · simp only [Array.toList_push, List.mem_append, List.mem_cons, List.not_mem_nil, or_false] at he
        rcases he with he | rfl
        · exact h3 e he
        · exact ⟨s, rfl, rfl⟩
    · refine ⟨rfl, rfl, rfl, by simp, fun k hk hne => (MapKept.heap_set h1).2 k hne⟩
  · exact absurd f2 hs

end Go.Proofs.YtgmmbfnmojjbkaaGreatDoor
