import Derived.Test.YtfoeeocejcbmlaaDoorQO
import Derived.Test.YtfoeeocejcbmlaaDoorUA
namespace Go.Proofs.YtfoeeocejcbmlaaDoor
open Go.ChangeShapes Go.WideShapes Go.ChangeAt Go.RowKit Go.Joins
set_option maxRecDepth 100000
set_option linter.unusedVariables false
set_option linter.unusedSimpArgs false

theorem Tryd.cellsUri : Tryd.prog.cellsOf 24 = 3 := by kernel_rfl
theorem Tryd.cellsFds : Tryd.prog.cellsOf 22 = 1 := by kernel_rfl

variable {H : Type} {enc : TypeId × Value → H} {W : World} {spare : Nat → Bool} {held : Bool}

theorem trod_uri (fuel : Nat) (cs : List Value) (x : DataW H × List MemPlace) (h : DataW.trod enc Tryd.prog W 0 spare held fuel 24 cs = some x) :
    ∃ (u : Ur) (q : Value), cs = [.string u.1, .string u.2.1, q] ∧ RowF W q u.2.2 ∧ u.1.size ≤ maxLen ∧ u.2.1.size ≤ maxLen ∧ u.2.2.length ≤ 9223372036854775807 ∧ ∀ f ∈ u.2.2, f.1.size ≤ maxLen ∧ f.2.size ≤ maxLen := by
  obtain ⟨xs, n, rfl, rfl, hl, hlen, hf⟩ := DataW.trod_struct Tryd.underlying24 h
  rw [Tryd.cellsUri] at hl
  match cs, hl with
  | [c0, c1, c2], _ =>
    match xs, hlen with
    | [y0, y1, y2], _ =>
      have g0 : DataW.trod enc Tryd.prog W 0 spare held n 9 [c0] = some y0 := by simpa [Tryd.cellsText] using hf 0 _ rfl
      have g1 : DataW.trod enc Tryd.prog W 0 spare held n 9 [c1] = some y1 := by simpa [Tryd.cellsText] using hf 1 _ rfl
      have g2 : DataW.trod enc Tryd.prog W 0 spare held n 22 [c2] = some y2 := by simpa [Tryd.cellsText, Tryd.cellsFds] using hf 2 _ rfl
      obtain ⟨s, e0, _, w0⟩ := DataW.trod_string Tryd.underlying9 g0
      obtain ⟨t, e1, _, w1⟩ := DataW.trod_string Tryd.underlying9 g1
      simp at e0 e1
      subst e0 e1
      obtain ⟨A, len, cap, rfl⟩ : ∃ A len cap, c2 = .slice A len cap := by
        rcases DataW.trod_slice Tryd.underlying22 g2 with ⟨e3, _⟩ | ⟨a, len', cap', elems, rest, q, hq, e3, _⟩
        · simp at e3; exact ⟨_, _, _, e3⟩
        · simp at e3; exact ⟨_, _, _, e3⟩
      obtain ⟨ms, hr, _, hb, hm⟩ := fields_of_trod (A := A) (len := len) (cap := cap) (d := y2.1) (p := y2.2) ⟨n, g2⟩
      exact ⟨(s, t, ms), _, rfl, hr, w0, w1, hb, hm⟩

/-- The opening of an address. -/
theorem uri_of_trod {r : Reach} {b0 : Nat} {v : Value} {d : DataW H} {p : List MemPlace} (hv : Value.okWide Tryd.prog W r b0 24 v) (h : DataW.Trod enc Tryd.prog W 0 spare held 24 v d p) :
    ∃ (u : Ur) (q : Value), v = .agg #[.string u.1, .string u.2.1, q] ∧ RowF W q u.2.2 ∧ u.1.size ≤ maxLen ∧ u.2.1.size ≤ maxLen ∧ u.2.2.length ≤ 9223372036854775807 ∧ ∀ f ∈ u.2.2, f.1.size ≤ maxLen ∧ f.2.size ≤ maxLen := by
  obtain ⟨cs, rfl, hsz⟩ := okWide_struct Tryd.underlying24 hv
  obtain ⟨fuel, hf⟩ := h
  obtain ⟨u, q, e, h1⟩ := trod_uri fuel _ _ hf
  refine ⟨u, q, ?_, h1⟩
  simp only [Value.cells] at e
  cases cs; simp at e; subst e; rfl

end Go.Proofs.YtfoeeocejcbmlaaDoor
