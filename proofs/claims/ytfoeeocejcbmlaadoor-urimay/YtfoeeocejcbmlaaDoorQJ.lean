import Derived.Test.YtfoeeocejcbmlaaDoorQC
import Derived.Test.YtfoeeocejcbmlaaDoorQI
import Derived.Test.YtfoeeocejcbmlaaDoorE6
namespace Go.Proofs.YtfoeeocejcbmlaaDoor
open Go.RowKit
set_option linter.unusedVariables false
set_option linter.unusedSimpArgs false

theorem fold_at (ps : List ByteArray) (i : Nat) (h : i < ps.length) (acc : List Fd) : foldF ((ps.map (·.data.toList)).drop i) acc =
    match fdO (ps.getD i ⟨#[]⟩).data.toList with
    | none => (3, [])
    | some f => if hasF acc f.1 = true then (6, []) else foldF ((ps.map (·.data.toList)).drop (i + 1)) (acc ++ [f]) := by
  have e : (ps.map (·.data.toList)).drop i = (ps.getD i ⟨#[]⟩).data.toList :: (ps.map (·.data.toList)).drop (i + 1) := by
    rw [List.drop_eq_getElem_cons (by simpa using h)]
    simp [List.getD, List.getElem?_eq_getElem h]
  rw [e]; rfl

theorem RowS.hold {w : World} {A : Option Addr} {cap n : Nat} {ps : List ByteArray} (h : RowS w (.slice A n cap) ps) (hp : 0 < ps.length) :
    ∃ b o, A = some ⟨b, o, none⟩ ∧ b < w.heap.size ∧ ∀ i, i < ps.length → w.cell? ⟨b, o + i, none⟩ = some (.string (ps.getD i ⟨#[]⟩)) := by
  obtain ⟨A', cap', e, h | h⟩ := h
  · omega
  · injection e with e1 e2 e3; subst e1; exact h

theorem piece_le (s : ByteArray) (ps : List ByteArray) (h : ps.map (·.data.toList) = brk (fun d => d == 38) s.data.toList []) (i : Nat) (hi : i < ps.length) : (ps.getD i ⟨#[]⟩).size ≤ s.size := by
  have hm : (ps.getD i ⟨#[]⟩).data.toList ∈ brk (fun d => d == 38) s.data.toList [] := by
    rw [← h]
    exact List.mem_map.2 ⟨ps.getD i ⟨#[]⟩, by simp [List.getD, List.getElem?_eq_getElem hi], rfl⟩
  have := brk_le _ _ _ _ hm
  rw [size_list, size_list] at this
  simpa using this

def RParseRel (w1 : World) (s : ByteArray) (ps : List ByteArray) (lv iv : Value) (wr : World) : Prop :=
  ∃ (i : Nat) (acc : List Fd), iv = .int .i64 (i : Int) ∧ i ≤ ps.length ∧ acc.length ≤ i ∧ OwnF wr w1.heap.size lv acc ∧ Below w1.heap.size w1 wr ∧ foldF ((ps.map (·.data.toList)).drop i) acc = parF s

end Go.Proofs.YtfoeeocejcbmlaaDoor
