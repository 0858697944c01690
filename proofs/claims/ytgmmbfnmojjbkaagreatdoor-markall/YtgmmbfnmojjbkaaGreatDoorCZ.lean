import Derived.Test.YtgmmbfnmojjbkaaGreatDoorCX
import Derived.Test.YtgmmbfnmojjbkaaGreatDoorC2
import Derived.Test.YtgmmbfnmojjbkaaGreatDoorW6
import Derived.Test.YtgmmbfnmojjbkaaGreatDoorW25
import Derived.Deep.RegionHeld3
import Derived.Test.YtgmmbfnmojjbkaaGreatDoorW20
namespace Go.Proofs.YtgmmbfnmojjbkaaGreatDoor
open Go.RowKit
set_option linter.unusedVariables false
set_option linter.unusedSimpArgs false

/-- A row of one's own, read. -/
theorem OwnB.at {w : World} {B : Nat} {v : Value} {xs : List UInt8} (h : OwnB w B v xs) : ∃ A cap, v = .slice A xs.length cap ∧ ByAt w w.heap.size A xs ∧ xs.length ≤ cap ∧ cap ≤ maxLen ∧ ∀ q, v.ownBlock = some q → ∃ o, A = some ⟨q, o, none⟩ := by
  rcases h.2 with ⟨h1, h2⟩ | ⟨g, cap, cur, h1, h2, h3, h4, h5, _⟩
  · exact ⟨none, 0, by rw [h1, h2], .inl (List.eq_nil_of_length_eq_zero h2), by omega, by unfold maxLen; omega, fun q hq => by rw [h1] at hq; simp [Value.ownBlock] at hq⟩
  · refine ⟨_, cap, h1, .inr ⟨g, 0, rfl, (h.lt g (by rw [h1]; rfl)).2, fun i hi => ?_⟩, h4, h5, fun q hq => by rw [h1] at hq; simp [Value.ownBlock] at hq; exact ⟨0, by rw [hq]⟩⟩
    have := World.ownsRow.cellAt (h1 ▸ h) i (by simpa [Lib.byteCells] using hi)
    rw [Nat.zero_add, this]
    simp [Lib.byteCells, List.getD, List.getElem?_eq_getElem hi]

section
variable {P : Program} (w : World)
/-- A conversion to a string within a region that draws. -/
theorem step_conv {ops : Array Oper} {o : Oper} {a : Act} {K : Act → World → Prop} {Q : Exit → Act → World → Prop} {E : Prop} (hw : Region.wanted o (yielded ops a.tmps) = true) (x : Operand)
    (ho : o.op = .convert 43 9 x) (A : Option Addr) (n cap B : Nat) (zs : List UInt8) (st : ByteArray) (hx : a.eval x = .slice A n cap) (hn : zs.length = n) (h : ByAt w B A zs) (hst : (⟨zs.toArray⟩ : ByteArray) = st)
    (hk : K (a.put o.dst (.string st)) w) : if Region.wanted o (yielded ops a.tmps) = true then Oper.wp Tryz.prog o a w K Q else E := by
  rw [if_pos hw]
  subst hn hst
  unfold Oper.wp execOp
  simp only [ho, Sem.run_bind, hx, conv_bytes w B A zs cap h]
  exact hk
end

end Go.Proofs.YtgmmbfnmojjbkaaGreatDoor

namespace Go.Proofs.YtgmmbfnmojjbkaaGreatDoor
open Go.RowKit
set_option linter.unusedVariables false
set_option linter.unusedSimpArgs false

section
variable {P : Program} (w : World)

theorem run_append_keep (t ty e : TypeId) (i : TypeInfo) (z : Value) (size bytes : Nat) (ht : P.underlying t = some (.slice e)) (hi : P.info? e = some i) (hz : i.zero = some z)
    (hsize : i.size = size) (hby : i.bytes = bytes) (hzs : z.cells.size = size) (hsz : 0 < size) (base : Nat) (v : Value) (n : Nat) (xs : List Value) (hown : w.ownsRow base e size v n xs)
    (ad : Addr) (m c : Nat) (news : List Value) (hl : news.length = m * size) (hc : ∀ j u, news[j]? = some u → w.cell? (ad.add j) = some u) (h1 : ∀ u ∈ news, u.oneCell' = true) (h63 : n + m ≤ maxLen) (hbytes : (n + m) * bytes ≤ 140737488355328) (hbase : base ≤ w.heap.size) :
    ∃ v' w', (Builtin.append_ #[t, t] ty #[v, .slice (some ad) m c]).run P w = .ok v' w' ∧ w'.ownsRow base e size v' (n + m) (xs ++ news) ∧ w.grownBy w' v.ownBlock ∧ (v'.ownBlock = v.ownBlock ∨ v'.ownBlock = some w.heap.size) ∧
      ∀ g, v.ownBlock = some g → ∀ j u, xs[j]? = some u → w'.cell? ⟨g, j, none⟩ = some u := by
  obtain ⟨v', w', hr, k1, k2, k3⟩ := run_append_any (P := P) w t ty e i z size bytes ht hi hz hsize hby hzs hsz base v n xs hown (some ad) m c news (.inr ⟨ad, rfl, hl, hc, h1⟩) h63 hbytes hbase
  refine ⟨v', w', hr, k1, k2, k3, fun g hg j u hj => ?_⟩
  have hs : Src P i.size t (.slice (some ad) m c) m news w := Src.ofSlice w ht ad m c news (by rw [hsize]; exact hl) hc h1
  have hsm : n + m ≤ 9223372036854775807 := by simp only [maxLen] at h63; omega
  have ea : (⟨g, 0, none⟩ : Addr).add j = ⟨g, j, none⟩ := by cases j <;> simp [Addr.add]
  rcases hown.2 with ⟨rfl, rfl⟩ | ⟨g', cap, cur, rfl, hbg, hgc, hnc, hcm, hcs, htake⟩
  · simp [Value.ownBlock] at hg
  · simp only [Value.ownBlock] at hg
    injection hg with hg
    subst hg
    by_cases hroom : n + m ≤ cap
    · have hr2 := run_append_room_src (P := P) w t t ty e i ht hi g' 0 n cap (.slice (some ad) m c) m news hs hroom (fun q hq => by
        have : n * i.size + q < cur.size := by rw [hcs, hsize]; have := Nat.mul_le_mul_right size hroom; rw [Nat.add_mul] at this; omega
        simp [World.cell?, hgc, Nat.zero_add, this]) (fun q hq => by simp [World.frozen?, hgc])
      rw [hr2] at hr
      injection hr with e1 e2
      have := k1.cells (g := g') (by rw [← e1]; rfl) j u (by rw [List.getElem?_append_left (List.getElem?_eq_some_iff.1 hj).1]; exact hj)
      rwa [ea] at this
    · have hfo : (Builtin.firstCells i.size n (.slice (some ⟨g', 0, none⟩) n cap)).run P w.drew = .ok xs.toArray w.drew := run_firstCells_some w.drew i.size n ⟨g', 0, none⟩ n cap xs (by rw [hsize]; exact hown.1) (by simpa using hown.cells (g := g') rfl)
      have hr2 := run_append_grow_src (P := P) w t t ty e i z ht hi hz (some ⟨g', 0, none⟩) n cap xs hfo (.slice (some ad) m c) m news hs (by omega) (by omega) (by rw [hby]; exact growslice_fits (by omega) (by omega))
      rw [hr2] at hr
      injection hr with e1 e2
      have hc0 := hown.cells (g := g') rfl j u hj
      rw [ea] at hc0
      rw [← e2, World.cell?_alloc_past (w := w.drew) _ _ _ (World.block_lt_of_cell? w ⟨g', j, none⟩ hc0)]; exact hc0

theorem wpList_append_keep {ops : Array Oper} {rest : List Oper} {o : Oper} {a : Act} {Q : Exit → Act → World → Prop} (hgd : o.guard = none) (s x : Operand) (t : TypeId)
    (ho : o.op = .call { callee := .builtin .append, args := #[s, x], argTypes := #[t, t] }) (base : Nat)
    (e : TypeId) (i : TypeInfo) (z : Value) (size bytes : Nat) (ht : P.underlying t = some (.slice e)) (hi : P.info? e = some i) (hz : i.zero = some z)
    (hsize : i.size = size) (hby : i.bytes = bytes) (hzs : z.cells.size = size) (hsz : 0 < size) (v : Value) (n : Nat) (xs : List Value) (hs : a.eval s = v) (hown : w.ownsRow base e size v n xs)
    (ad : Addr) (m c : Nat) (news : List Value) (hx : a.eval x = .slice (some ad) m c) (hl : news.length = m * size) (hc : ∀ j u, news[j]? = some u → w.cell? (ad.add j) = some u) (h1 : ∀ u ∈ news, u.oneCell' = true)
    (h63 : n + m ≤ maxLen) (hbytes : (n + m) * bytes ≤ 140737488355328) (hbase : base ≤ w.heap.size)
    (h : ∀ v' w', w'.ownsRow base e size v' (n + m) (xs ++ news) → w.grownBy w' v.ownBlock → (v'.ownBlock = v.ownBlock ∨ v'.ownBlock = some w.heap.size) → (∀ g, v.ownBlock = some g → ∀ j u, xs[j]? = some u → w'.cell? ⟨g, j, none⟩ = some u) → wpList P ops Q rest (a.put o.dst v') w') : wpList P ops Q (o :: rest) a w := by
  refine wpList_plain hgd fun K hK => ?_
  obtain ⟨v', w', hr, h2, h3, h4, h5⟩ := run_append_keep (P := P) w t o.type e i z size bytes ht hi hz hsize hby hzs hsz base v n xs hown ad m c news hl hc h1 h63 hbytes hbase
  unfold Oper.wp execOp
  simp only [ho, resolve, invoke, builtin, Sem.run_bind, Sem.run_pure, Result.andThen_ok, List.map_toArray, List.map_cons, List.map_nil, hs, hx, hr]
  exact hK _ _ (h v' w' h2 h3 h4 h5)
end

def n258 : Nd := ⟨2, 258, ⟨#[]⟩⟩
theorem fit_258 : n258.Fit := fit_leaf 2 258 _ (by omega) (by omega) (by decide)
theorem may_258 : may n258 .nil = true := by simp [may, mayT, mayB, mayF, formedB, kidsOf, flen, n258, empB]
theorem put_258 : putB n258 .nil = [2, 0, 0, 1, 2] := by rw [putB, if_pos may_258]; decide
theorem one_258 : oneB [2, 0, 0, 1, 2] = .ok (n258, .nil) := rfl
theorem one_none : oneB [] = .error 1 := rfl
theorem take_258 : tk 16 0 [2, 0, 0, 1, 2, 7] = .ok (n258, .nil, 1, [7]) := rfl
theorem rep_258 (w : World) (B : Nat) (A : Option Addr) (cap : Nat) : RepV w B n258 .nil (.agg #[.int .i64 2, .int .i64 258, .string ⟨#[]⟩, .slice A 0 cap]) := ⟨fit_258, A, cap, 0, 0, rfl, ⟨Nat.zero_le _, Nat.zero_le _⟩, .inl rfl, trivial⟩

theorem same_258 (A A' : Option Addr) (cap cap' : Nat) (w : World) :
    Calls Tryz.prog 17 #[.agg #[.int .i64 2, .int .i64 258, .string ⟨#[]⟩, .slice A 0 cap], .agg #[.int .i64 2, .int .i64 258, .string ⟨#[]⟩, .slice A' 0 cap']] w fun e w' => e = .returned (.bool true) ∧ Below w.heap.size w w' := by
  have := refSame_any n258 .nil n258 .nil _ _ w.heap.size w (rep_258 w _ A cap) (rep_258 w _ A' cap') (Nat.le_refl _) (by simp [flen, kidsOf, n258]) (by simp [flen, kidsOf, n258]) trivial trivial
  rw [ordT_self] at this
  exact this

end Go.Proofs.YtgmmbfnmojjbkaaGreatDoor

namespace Go.Proofs.YtgmmbfnmojjbkaaGreatDoor
open Go.RowKit
set_option linter.unusedVariables false
set_option linter.unusedSimpArgs false

theorem NumsAt.below3 {w w' : World} {B : Nat} {ns : List Int} {LA : Option Addr} (h : NumsAt w B ns LA) (hb : Below B w w') : NumsAt w' B ns LA := by
  rcases h with h | ⟨lb, lo, e, hl, hc⟩
  · exact .inl h
  · exact .inr ⟨lb, lo, e, hl, fun i hi => by rw [hb.cell (by simpa using hl)]; exact hc i hi⟩

theorem ByAt.src {w : World} {B : Nat} {A : Option Addr} {xs : List UInt8} (h : ByAt w B A xs) : SrcAt w 1 A xs.length (Lib.byteCells xs) := by
  rcases h with rfl | ⟨b, o, rfl, hb, hc⟩
  · exact .inl ⟨rfl, rfl⟩
  · refine .inr ⟨_, rfl, by simp [Lib.byteCells], fun j u hj => ?_, fun u hu => ?_⟩
    · have hlt : j < xs.length := by have := (List.getElem?_eq_some_iff.1 hj).1; simpa [Lib.byteCells] using this
      have ea : (⟨b, o, none⟩ : Addr).add j = ⟨b, o + j, none⟩ := by cases j <;> simp [Addr.add]
      rw [ea, hc j hlt]
      simp [Lib.byteCells, List.getElem?_eq_getElem hlt] at hj
      rw [← hj]; simp [List.getD, List.getElem?_eq_getElem hlt]
    · simp [Lib.byteCells] at hu; obtain ⟨z, _, rfl⟩ := hu; rfl

/-- The bytes xs from A on, whatever becomes of what is made later. -/
structure Stays (w : World) (A : Option Addr) (cap : Nat) (xs : List UInt8) : Prop where
  at' : ByAt w w.heap.size A xs
  le : xs.length ≤ cap
  max' : cap ≤ maxLen

theorem Stays.later {w w' : World} {A : Option Addr} {cap : Nat} {xs : List UInt8} (h : Stays w A cap xs) (hb : Below w.heap.size w w') : Stays w' A cap xs := ⟨h.at'.keep hb.size (fun b o hlt => hb.cell hlt), h.le, h.max'⟩
theorem Stays.src {w : World} {A : Option Addr} {cap : Nat} {xs : List UInt8} (h : Stays w A cap xs) : SrcAt w 1 A xs.length (Lib.byteCells xs) := h.at'.src
theorem OwnB.stays {w : World} {B : Nat} {u : Value} {xs : List UInt8} (h : OwnB w B u xs) : ∃ A cap, u = .slice A xs.length cap ∧ Stays w A cap xs := by
  obtain ⟨A, cap, h1, h2, h3, h4, _⟩ := h.at
  exact ⟨A, cap, h1, h2, h3, h4⟩

/-- What a row of one's own from N on has grown into leaves all below N. -/
theorem grown_below {w w' : World} {N : Nat} {v : Value} (h : w.grownBy w' v.ownBlock) (hv : ∀ q, v.ownBlock = some q → N ≤ q) (hN : N ≤ w.heap.size) : Below N w w' :=
  ⟨h.os, h.tape, h.output, h.size, fun i hi => h.block i (by omega) (fun e => by have := hv i e.symm; omega)⟩

end Go.Proofs.YtgmmbfnmojjbkaaGreatDoor
