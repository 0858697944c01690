import Derived.Test.YtgmmbfnmojjbkaaGreatDoorD0
import Derived.Test.YtgmmbfnmojjbkaaGreatDoorRows
import Derived.Test.YtgmmbfnmojjbkaaGreatDoorW4
import Derived.OpenShut
import Derived.ChangeOld
import Derived.ProofKit
import Derived.Lib.SmallJoins
namespace Go.Proofs.YtgmmbfnmojjbkaaGreatDoor
open Go.ChangeShapes Go.WideShapes Go.ChangeAt Go.RowKit Go.Joins
set_option maxRecDepth 100000
set_option linter.unusedVariables false
set_option linter.unusedSimpArgs false

theorem Tryz.cellsTerm : Tryz.prog.cellsOf 24 = 4 := by kernel_rfl
theorem Tryz.cellsStr : Tryz.prog.cellsOf 9 = 1 := by kernel_rfl
theorem Tryz.cellsSl : Tryz.prog.cellsOf 22 = 1 := by kernel_rfl

theorem addr_add2 (b o i t : Nat) : ((⟨b, o, none⟩ : Addr).add i).add t = ⟨b, o + i + t, none⟩ := by
  unfold Addr.add
  by_cases h1 : i = 0 <;> by_cases h2 : t = 0 <;> simp [h1, h2]

variable {H : Type} {enc : TypeId × Value → H} {W : World} {spare : Nat → Bool} {held : Bool}

theorem trod_term : ∀ (fuel : Nat) (cs : List Value) (x : DataW H × List MemPlace), DataW.trod enc Tryz.prog W 0 spare held fuel 24 cs = some x →
    ∃ (a : Nd) (l : Fo) (A : Option Addr) (cap b o : Nat), cs = [.int .i64 a.kind, .int .i64 a.n, .string a.s, .slice A (flen l) cap] ∧ a.Fit ∧ (flen l ≤ 9223372036854775807 ∧ flen l ≤ cap) ∧ (flen l = 0 ∨ A = some ⟨b, o, none⟩) ∧ RepF W W.heap.size l b o := by
  intro fuel
  induction fuel using Nat.strongRecOn with
  | ind fuel ih =>
    intro cs x h
    obtain ⟨xs, n, rfl, rfl, hl, hlen, hf⟩ := DataW.trod_struct Tryz.underlying24 h
    rw [Tryz.cellsTerm] at hl
    match cs, hl with
    | [c0, c1, c2, c3], _ =>
      match xs, hlen with
      | [y0, y1, y2, y3], _ =>
        have g0 : DataW.trod enc Tryz.prog W 0 spare held n 3 [c0] = some y0 := by simpa [Tryz.cellsInt] using hf 0 _ rfl
        have g1 : DataW.trod enc Tryz.prog W 0 spare held n 3 [c1] = some y1 := by simpa [Tryz.cellsInt] using hf 1 _ rfl
        have g2 : DataW.trod enc Tryz.prog W 0 spare held n 9 [c2] = some y2 := by simpa [Tryz.cellsStr] using hf 2 _ rfl
        have g3 : DataW.trod enc Tryz.prog W 0 spare held n 22 [c3] = some y3 := by simpa [Tryz.cellsSl] using hf 3 _ rfl
        obtain ⟨k, e0, _, wk⟩ := DataW.trod_int Tryz.underlying3 g0
        obtain ⟨m, e1, _, wm⟩ := DataW.trod_int Tryz.underlying3 g1
        obtain ⟨s, e2, _, ws⟩ := DataW.trod_string Tryz.underlying9 g2
        simp at e0 e1 e2
        subst e0 e1 e2
        have fit : Nd.Fit ⟨k, m, s⟩ := by
          have b1 := wk
          have b2 := wm
          simp [Lit.wf, IntKind.min, IntKind.max, IntKind.bits, IntKind.signed] at b1 b2
          exact ⟨by simp; omega, by simp; omega, by simp; omega, by simp; omega, ws⟩
        rcases DataW.trod_slice Tryz.underlying22 g3 with ⟨e3, _⟩ | ⟨a, len, cap, elems, rest, q, hq, e3, _, _, hlc, hcm, hel, hat, _⟩
        · simp at e3; subst e3
          exact ⟨⟨k, m, s⟩, .nil, none, 0, 0, 0, rfl, fit, ⟨Nat.zero_le _, Nat.zero_le _⟩, .inl rfl, trivial⟩
        · simp at e3; subst e3
          have hcm' : cap ≤ 9223372036854775807 := hcm
          have hcell : ∀ i, i < len → ∃ (a1 : Nd) (l1 : Fo) (A1 : Option Addr) (cap1 b1 o1 : Nat), W.cells? 0 (a.add (i * 4)) 4 = some [.int .i64 a1.kind, .int .i64 a1.n, .string a1.s, .slice A1 (flen l1) cap1] ∧ a1.Fit ∧ (flen l1 ≤ 9223372036854775807 ∧ flen l1 ≤ cap1) ∧ (flen l1 = 0 ∨ A1 = some ⟨b1, o1, none⟩) ∧ RepF W W.heap.size l1 b1 o1 := fun i hi => by
            have h1 := hat i hi
            rw [Tryz.cellsTerm, List.getElem?_eq_getElem (by omega), Option.bind_eq_some_iff] at h1
            obtain ⟨cs', hc, ht⟩ := h1
            obtain ⟨a1, l1, A1, cap1, b1, o1, rfl, h2⟩ := ih q (by omega) cs' _ ht
            exact ⟨a1, l1, A1, cap1, b1, o1, hc, h2⟩
          obtain ⟨ab, ao, asp⟩ := a
          have hsp : 0 < len → asp = none := fun h0 => by
            obtain ⟨a1, l1, A1, cap1, b1, o1, hc, _⟩ := hcell 0 h0
            have := (World.cells?_some hc).2.2 0 (by omega)
            simp [Addr.add] at this
            exact spot_none this
          have hfo : ∀ (j i : Nat), i + j = len → ∃ f : Fo, flen f = j ∧ RepF W W.heap.size f ab (ao + i * 4) := by
            intro j
            induction j with
            | zero => intro i _; exact ⟨.nil, rfl, trivial⟩
            | succ j ihj =>
              intro i hij
              obtain ⟨f, hfl, hfr⟩ := ihj (i + 1) (by omega)
              obtain ⟨a1, l1, A1, cap1, b1, o1, hc, h1, h2, h3, h4⟩ := hcell i (by omega)
              have hcs := (World.cells?_some hc).2.2
              have ea := hsp (by omega)
              have cc : ∀ t, t < 4 → W.cell? ⟨ab, ao + i * 4 + t, none⟩ = [Value.int .i64 a1.kind, .int .i64 a1.n, .string a1.s, .slice A1 (flen l1) cap1][t]? := fun t ht => by
                rw [← hcs t ht, ea, addr_add2]
              have c0 : W.cell? ⟨ab, ao + i * 4, none⟩ = some (.int .i64 a1.kind) := cc 0 (by omega)
              exact ⟨.node 0 0 a1 l1 f, by simp [flen, hfl], cell_lt c0, h1, c0, cc 1 (by omega), cc 2 (by omega), ⟨A1, cap1, b1, o1, cc 3 (by omega), h2, h3, h4⟩, by rw [show ao + i * 4 + 4 = ao + (i + 1) * 4 from by omega]; exact hfr⟩
          obtain ⟨f, hfl, hfr⟩ := hfo len 0 (by omega)
          rw [show ao + 0 * 4 = ao from by omega] at hfr
          refine ⟨⟨k, m, s⟩, f, some ⟨ab, ao, asp⟩, cap, ab, ao, by rw [hfl], fit, by omega, ?_, hfr⟩
          rcases Nat.eq_zero_or_pos len with h0 | h0
          · exact .inl (by omega)
          · exact .inr (by rw [hsp h0])

theorem term_of_trod {r : Reach} {b0 : Nat} {v : Value} {d : DataW H} {p : List MemPlace} (hv : Value.okWide Tryz.prog W r b0 24 v) (h : DataW.Trod enc Tryz.prog W 0 spare held 24 v d p) : ∃ a l, RepV W W.heap.size a l v := by
  obtain ⟨cs, rfl, hsz⟩ := okWide_struct Tryz.underlying24 hv
  obtain ⟨fuel, hf⟩ := h
  obtain ⟨a, l, A, cap, b, o, e, h1, h2, h3, h4⟩ := trod_term fuel _ _ hf
  refine ⟨a, l, h1, A, cap, b, o, ?_, h2, h3, h4⟩
  simp only [Value.cells] at e
  cases cs; simp at e; subst e; rfl

end Go.Proofs.YtgmmbfnmojjbkaaGreatDoor
