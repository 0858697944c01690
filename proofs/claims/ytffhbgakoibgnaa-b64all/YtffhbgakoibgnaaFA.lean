import Derived.Test.YtffhbgakoibgnaaF9
namespace Go.Proofs.Ytffhbgakoibgnaa
open Go.RowKit
set_option linter.unusedVariables false
set_option linter.unusedSimpArgs false

theorem below_tr8 {w w1 w2 : World} (h : Below w.heap.size w w1) (k : Below w1.heap.size w1 w2) : Below w.heap.size w w2 := h.trans (k.mono h.size)

/-- Dec, what it answers said by name. -/
theorem bdec_is (s : ByteArray) (w : World) (hm : s.size ≤ 1000000) (y : List UInt8) (n : Int) (m : Nat) (e1 : dL s = y) (e2 : dN s = n) (e3 : y.length = m) :
    Calls Try.prog 8 #[.string s] w fun e w' => ∃ A cap, e = .returned (.tuple #[.slice A m cap, .int .i64 n]) ∧ ByAt w' w'.heap.size A y ∧ m ≤ cap ∧ Below w.heap.size w w' := by
  subst e1 e2 e3
  exact (bdec_any s w hm).mono fun e w' ⟨A, cap, h1, h2, h3, h4, h5⟩ => ⟨A, cap, h1, h2, h3, h5⟩

theorem ByAt.up {w w' : World} {A : Option Addr} {xs : List UInt8} (h : ByAt w w.heap.size A xs) (hb : Below w.heap.size w w') : ByAt w' w'.heap.size A xs := (h.below hb).keep hb.size (fun _ _ _ => rfl)

theorem byAt_one (w : World) (c : UInt8) (T : TypeId) : ByAt (w.alloc (.cells #[.int .u8 (c.toNat : Int)] T)) (w.alloc (.cells #[.int .u8 (c.toNat : Int)] T)).heap.size (some ⟨w.heap.size, 0, none⟩) [c] := by
  refine .inr ⟨_, _, rfl, by simp, fun i hi => ?_⟩
  obtain rfl : i = 0 := by simpa using hi
  simp [go_sem]

set_option maxHeartbeats 1000000 in
theorem known8_any (w : World) :
    Calls Try.prog 6 #[] w fun e w' => e = .returned (.bool true) ∧ Below w.heap.size w w' := by
  have k1 := fun W => bdec_is ⟨#[95, 119]⟩ W (by decide) [255] 0 1 (by decide +kernel) (by decide +kernel) rfl
  have k2 := fun W => bdec_is ⟨#[95, 120]⟩ W (by decide) [] 3 0 (by decide +kernel) (by decide +kernel) rfl
  have e1 : b64S [255] = ⟨#[95, 119]⟩ := by decide +kernel
  have e2 : b64S [] = ⟨#[]⟩ := by decide +kernel
  have k3 : ∀ W : World, Calls Try.prog 10 #[.slice (some ⟨W.heap.size, 0, none⟩) 1 1] (W.alloc (.cells #[.int .u8 255] 5)) fun e w' => e = .returned (.string (b64S [255])) ∧ Below (W.alloc (.cells #[.int .u8 255] 5)).heap.size (W.alloc (.cells #[.int .u8 255] 5)) w' := fun W => benc_any (some ⟨W.heap.size, 0, none⟩) [255] 1 (W.alloc (.cells #[.int .u8 ((255 : UInt8).toNat : Int)] 5)) (byAt_one W 255 5) (by decide) (by decide)
  have k4 : ∀ W : World, Calls Try.prog 10 #[.slice none 0 0] W fun e w' => e = .returned (.string (b64S [])) ∧ Below W.heap.size W w' := fun W => benc_any none [] 0 W (.inl rfl) (by decide) (by decide)
  rw [e1] at k3
  rw [e2] at k4
  clear e1 e2
  go_enter Try.func6, Try.ntmps6
  go_wp2_with fail
  refine (k1 _).mono ?_
  rintro e w1 ⟨A1, cap1, rfl, h1, hc1, hb1⟩
  go_wp2_with fail
  refine (k2 _).mono ?_
  rintro e w2 ⟨A2, cap2, rfl, h2, hc2, hb2⟩
  have h1 := h1.up hb2
  obtain ⟨bb, oo, rfl, hbb, hcc⟩ : ∃ b o, A1 = some ⟨b, o, none⟩ ∧ b < w2.heap.size ∧ ∀ i, i < [(255 : UInt8)].length → w2.cell? ⟨b, o + i, none⟩ = some (.int .u8 (([(255 : UInt8)].getD i 0).toNat : Int)) := by
    rcases h1 with h | h
    · cases h
    · exact h
  have c0 : w2.cell? ⟨bb, oo, none⟩ = some (.int .u8 255) := hcc 0 (by decide)
  have hb2 := below_tr8 hb1 hb2
  clear hcc h1 h2 hb1 k1 k2
  go_wp2_with fail
  refine (k3 w2).mono ?_
  rintro e w3 ⟨rfl, hb3⟩
  have c3 := (hb3.cell (p := ⟨bb, oo, none⟩) (cell_lt (cell_up c0))).trans (cell_up c0)
  clear c0
  have hb3 := hb2.trans ((((Below.refl _ w2).alloc (Nat.le_refl _) _).trans (hb3.mono (by simp))).mono hb2.size)
  go_wp2_with fail
  refine (k4 w3).mono ?_
  rintro e w4 ⟨rfl, hb4⟩
  go_wp2_with fail
  go_ret
  exact ⟨rfl, below_tr8 hb3 hb4⟩

theorem ByAt.row {w : World} {B : Nat} {A : Option Addr} {xs : List UInt8} (h : ByAt w B A xs) : SrcAt w 1 A xs.length (Lib.byteCells xs) := by
  rcases h with rfl | ⟨b, o, rfl, hb, hc⟩
  · exact .inl ⟨rfl, rfl⟩
  · refine .inr ⟨_, rfl, by simp [Lib.byteCells], fun j u hj => ?_, by simp [Lib.byteCells, Value.oneCell']⟩
    obtain ⟨h1, h2⟩ := List.getElem?_eq_some_iff.1 hj
    have h1 : j < xs.length := by simpa [Lib.byteCells] using h1
    rw [show (⟨b, o, none⟩ : Addr).add j = ⟨b, o + j, none⟩ from by cases j <;> simp [Addr.add], hc j h1, ← h2]
    simp [Lib.byteCells, List.getD, List.getElem?_eq_getElem h1]

/-- Enc, what it answers said by name. -/
theorem benc_is (A : Option Addr) (xs : List UInt8) (cap : Nat) (W : World) (hx : ByAt W W.heap.size A xs) (hc : xs.length ≤ cap) (hm : xs.length ≤ 1000000) (n : Nat) (hn : xs.length = n) (st : ByteArray) (e : b64S xs = st) :
    Calls Try.prog 10 #[.slice A n cap] W fun e w' => e = .returned (.string st) ∧ Below W.heap.size W w' := by
  subst hn e
  exact benc_any A xs cap W hx hc hm

theorem b64S_app (l r : List UInt8) (h : l.length % 3 = 0) : b64S (l ++ r) = b64S l ++ b64S r := ba_ext (by rw [ba_app]; simp only [b64S, ba_list, b64_app l r h])
theorem b64S_size (l : List UInt8) : (b64S l).size = (l.length * 8 + 5) / 6 := by
  rw [← size_list]; unfold b64S; rw [ba_list, b64_len]

end Go.Proofs.Ytffhbgakoibgnaa
