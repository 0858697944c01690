import Derived.Test.YtfoeeocejcbmlaaDoorQD
import Derived.Test.YtfoeeocejcbmlaaDoorBK
import Derived.Test.YtfoeeocejcbmlaaDoorD0
namespace Go.Proofs.YtfoeeocejcbmlaaDoor
open Go.ChangeShapes Go.WideShapes Go.ChangeAt Go.RowKit Go.Joins
set_option maxRecDepth 100000
set_option linter.unusedVariables false
set_option linter.unusedSimpArgs false

theorem Tryd.cellsText : Tryd.prog.cellsOf 9 = 1 := by kernel_rfl
theorem Tryd.cellsFd : Tryd.prog.cellsOf 28 = 2 := by kernel_rfl

theorem addr_add10 (b o k t : Nat) : ((⟨b, o, none⟩ : Addr).add k).add t = ⟨b, o + k + t, none⟩ := by
  unfold Addr.add; split <;> (try split) <;> simp_all

variable {H : Type} {enc : TypeId × Value → H} {W : World} {spare : Nat → Bool} {held : Bool}

theorem trod_text (fuel : Nat) (cs : List Value) (x : DataW H × List MemPlace) (h : DataW.trod enc Tryd.prog W 0 spare held fuel 9 cs = some x) :
    ∃ s : ByteArray, cs = [.string s] ∧ s.size ≤ maxLen := by
  obtain ⟨s, e, _, ws⟩ := DataW.trod_string Tryd.underlying9 h
  exact ⟨s, e, ws⟩

theorem trod_fd (fuel : Nat) (cs : List Value) (x : DataW H × List MemPlace) (h : DataW.trod enc Tryd.prog W 0 spare held fuel 28 cs = some x) :
    ∃ f : Fd, cs = [.string f.1, .string f.2] ∧ f.1.size ≤ maxLen ∧ f.2.size ≤ maxLen := by
  obtain ⟨xs, n, rfl, rfl, hl, hlen, hf⟩ := DataW.trod_struct Tryd.underlying28 h
  rw [Tryd.cellsFd] at hl
  match cs, hl with
  | [c0, c1], _ =>
    match xs, hlen with
    | [y0, y1], _ =>
      have g0 : DataW.trod enc Tryd.prog W 0 spare held n 9 [c0] = some y0 := by simpa [Tryd.cellsText] using hf 0 _ rfl
      have g1 : DataW.trod enc Tryd.prog W 0 spare held n 9 [c1] = some y1 := by simpa [Tryd.cellsText] using hf 1 _ rfl
      obtain ⟨s, e0, _, w0⟩ := DataW.trod_string Tryd.underlying9 g0
      obtain ⟨t, e1, _, w1⟩ := DataW.trod_string Tryd.underlying9 g1
      simp at e0 e1
      subst e0 e1
      exact ⟨(s, t), rfl, w0, w1⟩

/-- The opening of a row of texts. -/
theorem texts_of_trod {A : Option Addr} {len cap : Nat} {d : DataW H} {p : List MemPlace} (h : DataW.Trod enc Tryd.prog W 0 spare held 45 (.slice A len cap) d p) :
    ∃ ms : List ByteArray, RowS W (.slice A len cap) ms ∧ ms.length = len ∧ ms.length ≤ 9223372036854775807 ∧ ∀ m ∈ ms, m.size ≤ maxLen := by
  obtain ⟨fuel, hf⟩ := h
  rcases DataW.trod_slice Tryd.underlying45 hf with ⟨e3, _⟩ | ⟨a, len', cap', elems, rest, q, hq, e3, _, _, hlc, hcm, hel, hat, _⟩
  · simp [Value.cells] at e3
    obtain ⟨rfl, rfl, rfl⟩ := e3
    exact ⟨[], ⟨none, 0, rfl, .inl rfl⟩, rfl, Nat.zero_le _, by simp⟩
  · simp [Value.cells] at e3
    obtain ⟨rfl, rfl, rfl⟩ := e3
    have hcm' : cap ≤ 9223372036854775807 := hcm
    have hcell : ∀ i, i < len → ∃ m : ByteArray, W.cells? 0 (a.add (i * 1)) 1 = some [.string m] ∧ m.size ≤ maxLen := fun i hi => by
      have h1 := hat i hi
      rw [Tryd.cellsText, List.getElem?_eq_getElem (by omega), Option.bind_eq_some_iff] at h1
      obtain ⟨cs', hc, ht⟩ := h1
      obtain ⟨m, rfl, h2⟩ := trod_text q cs' _ ht
      exact ⟨m, hc, h2⟩
    obtain ⟨ab, ao, asp⟩ := a
    have hsp : 0 < len → asp = none := fun h0 => by
      obtain ⟨m, hc, _⟩ := hcell 0 h0
      have := (World.cells?_some hc).2.2 0 (by omega)
      simp [Addr.add] at this
      exact spot_none this
    have hms : ∀ j, j ≤ len → ∃ ms : List ByteArray, ms.length = j ∧ (∀ m ∈ ms, m.size ≤ maxLen) ∧ ∀ i, i < j → ab < W.heap.size ∧ W.cell? ⟨ab, ao + i, none⟩ = some (.string (ms.getD i ⟨#[]⟩)) := by
      intro j
      induction j with
      | zero => intro _; exact ⟨[], rfl, by simp, fun i hi => by omega⟩
      | succ j ihj =>
        intro hj
        obtain ⟨ms, hl, hs, hc⟩ := ihj (by omega)
        obtain ⟨m, hcm, hm⟩ := hcell j (by omega)
        have hcs := (World.cells?_some hcm).2.2
        have ea := hsp (by omega)
        have cc : W.cell? ⟨ab, ao + j, none⟩ = some (.string m) := by
          have := hcs 0 (by omega)
          rw [ea, addr_add10] at this
          simpa using this
        refine ⟨ms ++ [m], by simp [hl], fun m' hm' => ?_, fun i hi => ?_⟩
        · rcases List.mem_append.1 hm' with h | h
          · exact hs m' h
          · simp only [List.mem_singleton] at h; rw [h]; exact hm
        · rcases Nat.lt_or_ge i j with h | h
          · have e : (ms ++ [m]).getD i ⟨#[]⟩ = ms.getD i ⟨#[]⟩ := by simp [List.getD, List.getElem?_append_left (show i < ms.length by omega)]
            rw [e]; exact hc i h
          · obtain rfl : i = j := by omega
            have e : (ms ++ [m]).getD i ⟨#[]⟩ = m := by subst hl; simp [List.getD]
            rw [e]
            exact ⟨cell_lt cc, cc⟩
    obtain ⟨ms, hl, hs, hc⟩ := hms len (Nat.le_refl _)
    refine ⟨ms, ⟨_, cap, by rw [hl], ?_⟩, hl, by omega, hs⟩
    rcases Nat.eq_zero_or_pos len with h0 | h0
    · left; omega
    · right
      refine ⟨ab, ao, by rw [hsp h0], (hc 0 h0).1, fun i hi => (hc i (by omega)).2⟩

/-- The opening of a row of fields. -/
theorem fields_of_trod {A : Option Addr} {len cap : Nat} {d : DataW H} {p : List MemPlace} (h : DataW.Trod enc Tryd.prog W 0 spare held 22 (.slice A len cap) d p) :
    ∃ ms : List Fd, RowF W (.slice A len cap) ms ∧ ms.length = len ∧ ms.length ≤ 9223372036854775807 ∧ ∀ m ∈ ms, m.1.size ≤ maxLen ∧ m.2.size ≤ maxLen := by
  obtain ⟨fuel, hf⟩ := h
  rcases DataW.trod_slice Tryd.underlying22 hf with ⟨e3, _⟩ | ⟨a, len', cap', elems, rest, q, hq, e3, _, _, hlc, hcm, hel, hat, _⟩
  · simp [Value.cells] at e3
    obtain ⟨rfl, rfl, rfl⟩ := e3
    exact ⟨[], RowF.nil _, rfl, Nat.zero_le _, by simp⟩
  · simp [Value.cells] at e3
    obtain ⟨rfl, rfl, rfl⟩ := e3
    have hcm' : cap ≤ 9223372036854775807 := hcm
    have hcell : ∀ i, i < len → ∃ m : Fd, W.cells? 0 (a.add (i * 2)) 2 = some [.string m.1, .string m.2] ∧ m.1.size ≤ maxLen ∧ m.2.size ≤ maxLen := fun i hi => by
      have h1 := hat i hi
      rw [Tryd.cellsFd, List.getElem?_eq_getElem (by omega), Option.bind_eq_some_iff] at h1
      obtain ⟨cs', hc, ht⟩ := h1
      obtain ⟨m, rfl, h2⟩ := trod_fd q cs' _ ht
      exact ⟨m, hc, h2⟩
    obtain ⟨ab, ao, asp⟩ := a
    have hsp : 0 < len → asp = none := fun h0 => by
      obtain ⟨m, hc, _⟩ := hcell 0 h0
      have := (World.cells?_some hc).2.2 0 (by omega)
      simp [Addr.add] at this
      exact spot_none this
    have hms : ∀ j, j ≤ len → ∃ ms : List Fd, ms.length = j ∧ (∀ m ∈ ms, m.1.size ≤ maxLen ∧ m.2.size ≤ maxLen) ∧ ∀ i, i < j → ab < W.heap.size ∧ W.cell? ⟨ab, ao + i * 2, none⟩ = some (.string (ms.getD i fd0).1) ∧ W.cell? ⟨ab, ao + i * 2 + 1, none⟩ = some (.string (ms.getD i fd0).2) := by
      intro j
      induction j with
      | zero => intro _; exact ⟨[], rfl, by simp, fun i hi => by omega⟩
      | succ j ihj =>
        intro hj
        obtain ⟨ms, hl, hs, hc⟩ := ihj (by omega)
        obtain ⟨m, hcm, hm⟩ := hcell j (by omega)
        have hcs := (World.cells?_some hcm).2.2
        have ea := hsp (by omega)
        have cc : ∀ t, t < 2 → W.cell? ⟨ab, ao + j * 2 + t, none⟩ = [Value.string m.1, .string m.2][t]? := fun t ht => by
          rw [← hcs t ht, ea, addr_add10]
        refine ⟨ms ++ [m], by simp [hl], fun m' hm' => ?_, fun i hi => ?_⟩
        · rcases List.mem_append.1 hm' with h | h
          · exact hs m' h
          · simp only [List.mem_singleton] at h; rw [h]; exact hm
        · rcases Nat.lt_or_ge i j with h | h
          · have e : (ms ++ [m]).getD i fd0 = ms.getD i fd0 := by simp [List.getD, List.getElem?_append_left (show i < ms.length by omega)]
            rw [e]; exact hc i h
          · obtain rfl : i = j := by omega
            have e : (ms ++ [m]).getD i fd0 = m := by subst hl; simp [List.getD]
            rw [e]
            have c0 : W.cell? ⟨ab, ao + i * 2, none⟩ = some (.string m.1) := cc 0 (by omega)
            exact ⟨cell_lt c0, c0, cc 1 (by omega)⟩
    obtain ⟨ms, hl, hs, hc⟩ := hms len (Nat.le_refl _)
    refine ⟨ms, ⟨_, cap, by rw [hl], by omega, ?_⟩, hl, by omega, hs⟩
    rcases Nat.eq_zero_or_pos len with h0 | h0
    · left; omega
    · right
      refine ⟨ab, ao, by rw [hsp h0], (hc 0 h0).1, fun i hi => (hc i (by omega)).2⟩

end Go.Proofs.YtfoeeocejcbmlaaDoor
