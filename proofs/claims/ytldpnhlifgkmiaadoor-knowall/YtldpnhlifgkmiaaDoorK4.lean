import Derived.Test.YtldpnhlifgkmiaaDoorK3
namespace Go.Proofs.YtldpnhlifgkmiaaDoor
open Go.RowKit
set_option linter.unusedVariables false
set_option linter.unusedSimpArgs false

theorem conv_own {w : World} {B : Nat} {v : Value} {zs : List UInt8} (h : OwnB w B v zs) : (convert 73 9 v).run Tryd.prog w = .ok (.string ⟨zs.toArray⟩) w := by
  obtain ⟨A, cap, rfl, hA, _, _⟩ := h.value
  rcases hA with h0 | ⟨g, rfl, _, _⟩
  · obtain rfl := List.eq_nil_of_length_eq_zero h0
    cases A with
    | none => rw [show ([] : List UInt8).length = 0 from rfl, run_convert_bytes_string w 73 9 5 none 0 cap Tryd.underlying73 Tryd.underlying5 Tryd.underlying9]; rfl
    | some a => exact run_convert_bytes_back (P := Tryd.prog) w 73 9 5 a cap [] Tryd.underlying73 Tryd.underlying5 Tryd.underlying9 (fun j hj => by simp at hj)
  · exact run_convert_bytes_back (P := Tryd.prog) w 73 9 5 ⟨g, 0, none⟩ cap zs Tryd.underlying73 Tryd.underlying5 Tryd.underlying9 (fun j hj => by
      have ea : (⟨g, 0, none⟩ : Addr).add j = ⟨g, j, none⟩ := by cases j <;> simp [Addr.add]
      have := World.ownsRow.cellAt h j (by omega)
      rw [ea, this]; simp [Lib.byteCells, List.getElem?_eq_getElem hj])

/-- A term's key, as a text. -/
def keyS (a : Nd) (l : Fo) : ByteArray := ⟨(keyT a l).toArray⟩

set_option maxRecDepth 100000 in
set_option maxHeartbeats 1000000 in
theorem key_any (a : Nd) (l : Fo) (v : Value) (w : World) (hv : RepV w w.heap.size a l v) (hbig : (keyT a l).length ≤ 1000000) (htab : Tab10 w.heap.size w) :
    Calls Tryd.prog 34 #[v] w fun e w' => e = .returned (.string (keyS a l)) ∧ Below w.heap.size w w' := by
  obtain ⟨hf, A, cap, b, o, rfl, hn, hA, hr⟩ := hv
  have HA : Hid (flen l = 0 ∨ A = some ⟨b, o, none⟩) := hA
  clear hA
  go_enter Tryd.func34, Tryd.ntmps34
  go_wp2_with fail
  have hba : Below w.heap.size w (w.alloc (.cells #[.int .i64 a.kind, .int .i64 a.n, .string a.s, .slice A (flen l) cap] 29)) := Below.alloc (Below.refl _ _) (Nat.le_refl _) _
  refine (pk_any a l _ _ [] w.heap.size w.heap.size _ ⟨hf, A, cap, b, o, rfl, hn, HA.out, hr.below hba⟩ (OwnB.nil _ _) (Nat.le_refl _) (by simp) (by simpa using hbig) (htab.on hba)).mono ?_
  rintro e w1 ⟨u1, rfl, ho1, hk1⟩
  rw [List.nil_append] at ho1
  have hcv := conv_own ho1
  have hb1 : Below w.heap.size w w1 := hba.trans hk1.below
  clear ho1 hk1 hba
  obtain ⟨S, hS⟩ : ∃ S : ByteArray, S = keyS a l := ⟨_, rfl⟩
  have hcv' : (convert 73 9 u1).run Tryd.prog w1 = .ok (.string S) w1 := by rw [hS]; exact hcv
  have HS : Hid (S = keyS a l) := hS
  clear hcv hS
  go_wp2_with fail
  go_ret
  exact ⟨ret_str HS.out, hb1⟩

end Go.Proofs.YtldpnhlifgkmiaaDoor
