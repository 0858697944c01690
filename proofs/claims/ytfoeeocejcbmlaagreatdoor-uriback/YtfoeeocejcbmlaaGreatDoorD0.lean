import Derived.Test.YtfoeeocejcbmlaaGreatDoorRows
import Derived.WalkKit
import Derived.WalkSpells
import Derived.WalkLawsBesides
import Derived.Deep.QuietTactic
import Derived.BigQuiet
import Derived.OpenShut
import Derived.ChangeOld
import Derived.ProofKit
import Derived.Lib.SmallJoins
namespace Go.Proofs.YtfoeeocejcbmlaaGreatDoor
open Go.ChangeShapes Go.WideShapes Go.ChangeAt Go.RowKit Go.Joins
set_option maxRecDepth 100000
set_option linter.unusedVariables false
set_option linter.unusedSimpArgs false

theorem Tryz.own : ownKnob Tryz.prog.godebug = none := by kernel_rfl
theorem Tryz.cellsInt : Tryz.prog.cellsOf 3 = 1 := by kernel_rfl
theorem Tryz.laidOut : laidOutB Tryz.prog = true := by kernel_rfl

theorem spot_none {w : World} {a : Addr} {v : Value} (h : w.cell? a = some v) : a.spot = none := by
  unfold World.cell? at h
  split at h
  · split at h
    · simp at h
    · rename_i hs; simpa using hs
  · simp at h

theorem cell_lt {w : World} {a : Addr} {v : Value} (h : w.cell? a = some v) : a.block < w.heap.size := by
  rcases Nat.lt_or_ge a.block w.heap.size with h' | h'
  · exact h'
  · simp [World.cell?, Array.getElem?_eq_none h'] at h

theorem tmod_emod (x n : Int) (h0 : 1 ≤ n) : x % n = if x.tmod n < 0 then x.tmod n + n else x.tmod n := by
  have e := Int.mul_tdiv_add_tmod x n
  have l1 := Int.lt_tmod_of_pos x (show 0 < n by omega)
  have l2 := Int.tmod_lt_of_pos x (show 0 < n by omega)
  have e2 : x % n = (x.tmod n) % n := by
    conv => lhs; rw [← e, Int.add_comm]
    exact Int.add_mul_emod_self_left _ _ _
  rw [e2]; split
  · rw [← Int.add_emod_right]; exact Int.emod_eq_of_lt (by omega) (by omega)
  · exact Int.emod_eq_of_lt (by omega) (by omega)

/-- Numbers lie in w, below B. -/
def NumsAt (w : World) (B : Nat) (ns : List Int) (LA : Option Addr) : Prop :=
  ns = [] ∨ ∃ lb lo, LA = some ⟨lb, lo, none⟩ ∧ lb < B ∧ ∀ i, i < ns.length → w.cell? ⟨lb, lo + i, none⟩ = some (.int .i64 (ns.getD i 0))

def NumsFit (ns : List Int) : Prop := ns.length ≤ 9223372036854775807 ∧ ∀ i, -9223372036854775808 ≤ ns.getD i 0 ∧ ns.getD i 0 ≤ 9223372036854775807

variable {H : Type} {enc : TypeId × Value → H} {W : World} {spare : Nat → Bool} {held : Bool}

theorem nums_of_trod {A : Option Addr} {len cap : Nat} {d : DataW H} {p : List MemPlace} (h : DataW.Trod enc Tryz.prog W 0 spare held 22 (.slice A len cap) d p) : ∃ zs : List Int, NumsAt W W.heap.size zs A ∧ NumsFit zs ∧ zs.length = len := by
  obtain ⟨fuel, hf⟩ := h
  rcases open_ints Tryz.underlying22 Tryz.underlying3 Tryz.cellsInt hf with ⟨hcs, _⟩ | ⟨x, l, c, zs, hcs, _, hl, hm, hz, _, hcell, hwz⟩
  · simp [Value.cells] at hcs
    obtain ⟨rfl, rfl, rfl⟩ := hcs
    exact ⟨[], .inl rfl, ⟨Nat.zero_le _, fun i => by simp⟩, rfl⟩
  · simp [Value.cells] at hcs
    obtain ⟨rfl, rfl, rfl⟩ := hcs
    have hlz : len ≤ zs.length := by rw [hz]; split <;> omega
    have hlen : (zs.take len).length = len := by rw [List.length_take, Nat.min_eq_left hlz]
    have hm' : cap ≤ 9223372036854775807 := hm
    refine ⟨zs.take len, ?_, ⟨by omega, fun i => ?_⟩, hlen⟩
    · rcases Nat.eq_zero_or_pos len with h0 | h0
      · left; rw [h0]; rfl
      · right
        have c0 := hcell 0 (by omega)
        simp [Addr.add] at c0
        have hs := spot_none c0
        refine ⟨x.block, x.off, by cases x; simp at hs; subst hs; rfl, cell_lt c0, fun i hi => ?_⟩
        rw [hlen] at hi
        have ci := hcell i (by omega)
        have ea : x.add i = ⟨x.block, x.off + i, none⟩ := by unfold Addr.add; split <;> (cases x; simp_all)
        rw [ea] at ci
        rw [ci]; simp [List.getD, List.getElem?_take_of_lt hi]
    · rw [List.getD_eq_getElem?_getD]
      cases hg : (zs.take len)[i]? with
      | none => simp
      | some z =>
        have hw := hwz z (List.mem_of_mem_take (List.mem_of_getElem? hg))
        simp [Lit.wf, IntKind.min, IntKind.max, IntKind.bits, IntKind.signed] at hw
        simp; omega

theorem NumsAt.below {w w' : World} {B : Nat} {ns : List Int} {LA : Option Addr} (h : NumsAt w B ns LA) (hb : Below B w w') : NumsAt w' B ns LA := by
  rcases h with h | ⟨lb, lo, e, hl, hc⟩
  · exact .inl h
  · exact .inr ⟨lb, lo, e, hl, fun i hi => by rw [hb.cell (by simpa using hl)]; exact hc i hi⟩

end Go.Proofs.YtfoeeocejcbmlaaGreatDoor
