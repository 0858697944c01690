import Derived.Test.YtanpplgmdemlaaaGreatDoorCL
import Derived.Test.YtanpplgmdemlaaaGreatDoorShelf
import Derived.Test.YtanpplgmdemlaaaGreatDoorR2
import Derived.Laws.IdiomStrings
import Derived.Test.YtanpplgmdemlaaaGreatDoorKQ
import Derived.Lib.ItoaLen
namespace Go.Proofs.YtanpplgmdemlaaaGreatDoor
open Go.RowKit
set_option linter.unusedVariables false
set_option linter.unusedSimpArgs false

/-- Nothing below B has turned, and no block but rows of bytes. -/
structure KeptU (B : Nat) (w w' : World) : Prop where
  below : Below B w w'
  others : Lib.OthersKept 5 none w w'

theorem KeptU.refl (B : Nat) (w : World) : KeptU B w w := ⟨Below.refl _ _, Lib.OthersKept.refl _ _ _⟩
theorem KeptU.trans {B : Nat} {a b c : World} (h : KeptU B a b) (k : KeptU B b c) : KeptU B a c := ⟨h.below.trans k.below, h.others.trans k.others⟩
theorem KeptU.alloc {B : Nat} {a w : World} (h : KeptU B a w) (hB : B ≤ w.heap.size) (o : Obj) : KeptU B a (w.alloc o) := ⟨Below.alloc h.below hB o, h.others.alloc o⟩
theorem KeptU.drew {B : Nat} {a w : World} (h : KeptU B a w) : KeptU B a w.drew := ⟨h.below.drew, h.others.drew⟩
theorem KeptU.box {B : Nat} {w w' : World} (h : KeptU B w w') {k : Nat} {cs : Array Value} {fr : Nat × Nat} (hk : w.heap[k]? = some (.cells cs 27 fr)) : w'.heap[k]? = some (.cells cs 27 fr) :=
  h.others k _ hk (by simp) (fun c fz e => by injection e with _ e _; exact absurd e (by decide))
theorem KeptU.size {B : Nat} {w w' : World} (h : KeptU B w w') : w.heap.size ≤ w'.heap.size := h.below.size

/-- The table of powers of ten stands, whatever turns from B on. -/
abbrev Tab10 (B : Nat) (w : World) : Prop := Lib.TabBelow Tryz.prog B w "internal/strconv.uint64pow10" .u64 Lib.pow10Tab

theorem owns_row {w : World} {B : Nat} {v : Value} {n : Nat} {xs : List Value} (h : w.ownsRow B 5 1 v n xs) : ∀ g, v.ownBlock = some g → ∃ c fz, w.heap[g]? = some (.cells c 5 fz) := fun g e => by
  rcases h.2 with ⟨h1, _⟩ | ⟨g', cap, cur, h1, _, h3, _⟩
  · rw [h1] at e; simp [Value.ownBlock] at e
  · rw [h1] at e; simp [Value.ownBlock] at e; subst e; exact ⟨_, _, h3⟩

set_option maxRecDepth 100000 in
set_option maxHeartbeats 1000000 in
theorem putNumK (w : World) (v : Value) (xs : List UInt8) (n : Int) (B : Nat) (hown : OwnB w B v xs) (hB : B ≤ w.heap.size) (hx : xs.length ≤ 1000000) (h0 : -9223372036854775808 ≤ n) (h1 : n ≤ 9223372036854775807) (htab : Tab10 B w) :
    Calls Tryz.prog 72 #[v, .int .i64 n] w fun e w' => ∃ v', e = .returned v' ∧ OwnB w' B v' (xs ++ numB n) ∧ KeptU B w w' := by
  obtain ⟨i5, hi, hz0, hz1, hz2⟩ := info_has Tryz.infoByte
  have hlen := Lib.itoa_length_le n h0 h1
  have HX : Hid (OwnB w B v xs) := hown
  clear hown
  go_enter Tryz.func72, Tryz.ntmps72
  go_wp2_with fail
  refine (Tryz.strconv_AppendInt_10 B xs.length n h0 h1 v (Lib.byteCells xs) w HX.out hB (by omega) htab).mono ?_
  rintro e w1 ⟨v1, rfl, hown1, hb1, hk1⟩
  have hs1 := hb1.size
  go_wp2_with (at_builtin; refine wpList_append_any _ rfl _ _ 96 rfl B 5 i5 (.int .u8 0) 1 1 Tryz.underlying96 hi hz0 hz1 hz2 rfl (by decide) v1 (xs.length + (Lib.itoa n).length) (Lib.byteCells xs ++ Lib.byteCells (Lib.itoa n)) rfl (hown1.alloc _) (some ⟨w1.heap.size, 0, none⟩) 1 1 [.int .u8 32] rfl ?src ?c3 ?c4 ?c5 ?_)
  case src => exact .inr ⟨_, rfl, rfl, World.news_of_block (t := 5) (fr := (0, 0)) (heap_alloc_new w1 _), by simp [Value.oneCell']⟩
  case c3 => unfold maxLen; omega
  case c4 => omega
  case c5 => simp; omega
  intro v2 w2 hown2 hgrow2 hat2
  have ho2 : OwnB w2 B v2 (xs ++ numB n) := by
    have e1 : Lib.byteCells (xs ++ numB n) = Lib.byteCells xs ++ Lib.byteCells (Lib.itoa n) ++ [Value.int .u8 32] := by simp [Lib.byteCells, numB]
    show World.ownsRow _ _ _ _ _ _ _
    rw [show (xs ++ numB n).length = xs.length + (Lib.itoa n).length + 1 from by simp [numB]; omega, e1]
    first | exact hown2 | simpa using hown2
  have hown1' := hown1.alloc (.cells #[.int .u8 32] 5)
  have hk2 : KeptU B w w2 := by
    have hka : KeptU B w (w1.alloc (.cells #[.int .u8 32] 5)) := KeptU.alloc ⟨hb1, hk1⟩ (by omega) _
    exact ⟨hka.below.trans ⟨hgrow2.os, hgrow2.tape, hgrow2.output, hgrow2.size, fun q hq => hgrow2.block q (by have := hka.below.size; omega) (fun e => by have := (hown1'.lt q e.symm).1; omega)⟩, hka.others.grown hgrow2 (owns_row hown1')⟩
  clear hown2 hgrow2 hat2 hown1 hown1'
  go_wp2_with fail
  go_ret
  exact ⟨v2, rfl, ho2, hk2⟩

end Go.Proofs.YtanpplgmdemlaaaGreatDoor
