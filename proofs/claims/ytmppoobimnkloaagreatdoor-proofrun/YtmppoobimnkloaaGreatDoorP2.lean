import Derived.Test.YtmppoobimnkloaaGreatDoorP0
import Derived.Test.YtmppoobimnkloaaGreatDoorVM
namespace Go.Proofs.YtmppoobimnkloaaGreatDoor
open Go.ChangeShapes Go.WideShapes Go.ChangeAt Go.RowKit Go.Joins
set_option maxRecDepth 100000
set_option linter.unusedVariables false
set_option linter.unusedSimpArgs false

theorem Tryz.cellsMove : Tryz.prog.cellsOf 26 = 4 := by kernel_rfl

variable {H : Type} {enc : TypeId × Value → H} {W : World} {spare : Nat → Bool} {held : Bool}

theorem trod_move (fuel : Nat) (cs : List Value) (x : DataW H × List MemPlace) (h : DataW.trod enc Tryz.prog W 0 spare held fuel 26 cs = some x) :
    ∃ m : Mv, cs = [.int .i64 m.kind, .int .i64 m.a, .int .i64 m.b, .string m.s] ∧ m.s.size ≤ maxLen := by
  obtain ⟨xs, n, rfl, rfl, hl, hlen, hf⟩ := DataW.trod_struct Tryz.underlying26 h
  rw [Tryz.cellsMove] at hl
  match cs, hl with
  | [c0, c1, c2, c3], _ =>
    match xs, hlen with
    | [y0, y1, y2, y3], _ =>
      have g0 : DataW.trod enc Tryz.prog W 0 spare held n 3 [c0] = some y0 := by simpa [Tryz.cellsInt] using hf 0 _ rfl
      have g1 : DataW.trod enc Tryz.prog W 0 spare held n 3 [c1] = some y1 := by simpa [Tryz.cellsInt] using hf 1 _ rfl
      have g2 : DataW.trod enc Tryz.prog W 0 spare held n 3 [c2] = some y2 := by simpa [Tryz.cellsInt] using hf 2 _ rfl
      have g3 : DataW.trod enc Tryz.prog W 0 spare held n 9 [c3] = some y3 := by simpa [Tryz.cellsStr] using hf 3 _ rfl
      obtain ⟨k, e0, _, _⟩ := DataW.trod_int Tryz.underlying3 g0
      obtain ⟨a, e1, _, _⟩ := DataW.trod_int Tryz.underlying3 g1
      obtain ⟨b, e2, _, _⟩ := DataW.trod_int Tryz.underlying3 g2
      obtain ⟨s, e3, _, ws⟩ := DataW.trod_string Tryz.underlying9 g3
      simp at e0 e1 e2 e3
      subst e0 e1 e2 e3
      exact ⟨⟨k, a, b, s⟩, rfl, ws⟩

theorem moves_of_trod {A : Option Addr} {len cap : Nat} {d : DataW H} {p : List MemPlace} (h : DataW.Trod enc Tryz.prog W 0 spare held 23 (.slice A len cap) d p) :
    ∃ ms : List Mv, MvsAt W W.heap.size ms A ∧ ms.length = len ∧ ms.length ≤ 9223372036854775807 ∧ ∀ m ∈ ms, m.s.size ≤ maxLen := by
  obtain ⟨fuel, hf⟩ := h
  rcases DataW.trod_slice Tryz.underlying23 hf with ⟨e3, _⟩ | ⟨a, len', cap', elems, rest, q, hq, e3, _, _, hlc, hcm, hel, hat, _⟩
  · simp [Value.cells] at e3
    obtain ⟨rfl, rfl, rfl⟩ := e3
    exact ⟨[], .inl rfl, rfl, Nat.zero_le _, by simp⟩
  · simp [Value.cells] at e3
    obtain ⟨rfl, rfl, rfl⟩ := e3
    have hcm' : cap ≤ 9223372036854775807 := hcm
    have hcell : ∀ i, i < len → ∃ m : Mv, W.cells? 0 (a.add (i * 4)) 4 = some [.int .i64 m.kind, .int .i64 m.a, .int .i64 m.b, .string m.s] ∧ m.s.size ≤ maxLen := fun i hi => by
      have h1 := hat i hi
      rw [Tryz.cellsMove, List.getElem?_eq_getElem (by omega), Option.bind_eq_some_iff] at h1
      obtain ⟨cs', hc, ht⟩ := h1
      obtain ⟨m, rfl, h2⟩ := trod_move q cs' _ ht
      exact ⟨m, hc, h2⟩
    obtain ⟨ab, ao, asp⟩ := a
    have hsp : 0 < len → asp = none := fun h0 => by
      obtain ⟨m, hc, _⟩ := hcell 0 h0
      have := (World.cells?_some hc).2.2 0 (by omega)
      simp [Addr.add] at this
      exact spot_none this
    have hms : ∀ j, j ≤ len → ∃ ms : List Mv, ms.length = j ∧ (∀ m ∈ ms, m.s.size ≤ maxLen) ∧ ∀ i, i < j → ab < W.heap.size ∧ W.cell? ⟨ab, ao + i * 4, none⟩ = some (.int .i64 (ms.getD i mv0).kind) ∧ W.cell? ⟨ab, ao + i * 4 + 1, none⟩ = some (.int .i64 (ms.getD i mv0).a) ∧ W.cell? ⟨ab, ao + i * 4 + 2, none⟩ = some (.int .i64 (ms.getD i mv0).b) ∧ W.cell? ⟨ab, ao + i * 4 + 3, none⟩ = some (.string (ms.getD i mv0).s) := by
      intro j
      induction j with
      | zero => intro _; exact ⟨[], rfl, by simp, fun i hi => by omega⟩
      | succ j ihj =>
        intro hj
        obtain ⟨ms, hl, hs, hc⟩ := ihj (by omega)
        obtain ⟨m, hcm, hm⟩ := hcell j (by omega)
        have hcs := (World.cells?_some hcm).2.2
        have ea := hsp (by omega)
        have cc : ∀ t, t < 4 → W.cell? ⟨ab, ao + j * 4 + t, none⟩ = [Value.int .i64 m.kind, .int .i64 m.a, .int .i64 m.b, .string m.s][t]? := fun t ht => by
          rw [← hcs t ht, ea, addr_add2]
        refine ⟨ms ++ [m], by simp [hl], fun m' hm' => ?_, fun i hi => ?_⟩
        · rcases List.mem_append.1 hm' with h | h
          · exact hs m' h
          · simp only [List.mem_singleton] at h; rw [h]; exact hm
        · rcases Nat.lt_or_ge i j with h | h
          · have e : (ms ++ [m]).getD i mv0 = ms.getD i mv0 := by simp [List.getD, List.getElem?_append_left (show i < ms.length by omega)]
            rw [e]; exact hc i h
          · obtain rfl : i = j := by omega
            have e : (ms ++ [m]).getD i mv0 = m := by subst hl; simp [List.getD]
            rw [e]
            have c0 : W.cell? ⟨ab, ao + i * 4, none⟩ = some (.int .i64 m.kind) := cc 0 (by omega)
            exact ⟨cell_lt c0, c0, cc 1 (by omega), cc 2 (by omega), cc 3 (by omega)⟩
    obtain ⟨ms, hl, hs, hc⟩ := hms len (Nat.le_refl _)
    refine ⟨ms, ?_, hl, by omega, hs⟩
    rcases Nat.eq_zero_or_pos len with h0 | h0
    · left; exact List.eq_nil_of_length_eq_zero (by omega)
    · right
      refine ⟨ab, ao, by rw [hsp h0], (hc 0 h0).1, fun i hi => (hc i (by omega)).2⟩

end Go.Proofs.YtmppoobimnkloaaGreatDoor
