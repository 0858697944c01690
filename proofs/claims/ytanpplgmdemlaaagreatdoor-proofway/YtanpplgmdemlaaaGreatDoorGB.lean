import Derived.Test.YtanpplgmdemlaaaGreatDoorA1
import Derived.Deep.AppendLies
import Derived.Test.YtanpplgmdemlaaaGreatDoorGA
import Derived.Test.YtanpplgmdemlaaaGreatDoorKB
import Derived.Deep.RegionLaw
import Derived.Deep.DeepCutAuto
import Derived.Deep.RegionHeld3
namespace Go.Proofs.YtanpplgmdemlaaaGreatDoor
open Go.RowKit
set_option linter.unusedVariables false
set_option linter.unusedSimpArgs false

section
variable {P : Program} (w : World)

/-- Where an append stays in its block, the room is the same. -/
theorem run_append_cap (t ty e : TypeId) (i : TypeInfo) (z : Value) (size bytes : Nat) (ht : P.underlying t = some (.slice e)) (hi : P.info? e = some i) (hz : i.zero = some z)
    (hsize : i.size = size) (hby : i.bytes = bytes) (hzs : z.cells.size = size) (hsz : 0 < size) (base : Nat) (v : Value) (n : Nat) (xs : List Value) (hown : w.ownsRow base e size v n xs)
    (ad : Addr) (m c : Nat) (news : List Value) (hl : news.length = m * size) (hc : ∀ j u, news[j]? = some u → w.cell? (ad.add j) = some u) (h1 : ∀ u ∈ news, u.oneCell' = true) (h63 : n + m ≤ maxLen) (hbytes : (n + m) * bytes ≤ 140737488355328) (hbase : base ≤ w.heap.size) :
    ∃ v' w', (Builtin.append_ #[t, t] ty #[v, .slice (some ad) m c]).run P w = .ok v' w' ∧ w'.ownsRow base e size v' (n + m) (xs ++ news) ∧ w.grownBy w' v.ownBlock ∧ (v'.ownBlock = v.ownBlock ∨ v'.ownBlock = some w.heap.size) ∧
      ∀ g c0, v = .slice (some ⟨g, 0, none⟩) n c0 → (v'.ownBlock = some g → v' = .slice (some ⟨g, 0, none⟩) (n + m) c0) ∧ (v'.ownBlock ≠ some g → w'.heap[g]? = w.heap[g]?) := by
  obtain ⟨v', w', hr, k1, k2, k3⟩ := run_append_any (P := P) w t ty e i z size bytes ht hi hz hsize hby hzs hsz base v n xs hown (some ad) m c news (.inr ⟨ad, rfl, hl, hc, h1⟩) h63 hbytes hbase
  refine ⟨v', w', hr, k1, k2, k3, fun g c0 hg => ?_⟩
  have hs : Src P i.size t (.slice (some ad) m c) m news w := Src.ofSlice w ht ad m c news (by rw [hsize]; exact hl) hc h1
  have hsm : n + m ≤ 9223372036854775807 := by simp only [maxLen] at h63; omega
  have hlt := hown.lt g (by rw [hg]; rfl)
  rcases hown.2 with ⟨rfl, rfl⟩ | ⟨g', cap, cur, rfl, hbg, hgc, hnc, hcm, hcs, htake⟩
  · cases hg
  · injection hg with e1 _ e3
    injection e1 with e1
    injection e1 with e1
    subst e1 e3
    by_cases hroom : n + m ≤ cap
    · have hr2 := run_append_room_src (P := P) w t t ty e i ht hi g' 0 n cap (.slice (some ad) m c) m news hs hroom (fun q hq => by
        have : n * i.size + q < cur.size := by rw [hcs, hsize]; have := Nat.mul_le_mul_right size hroom; rw [Nat.add_mul] at this; omega
        simp [World.cell?, hgc, Nat.zero_add, this]) (fun q hq => by simp [World.frozen?, hgc])
      rw [hr2] at hr
      injection hr with e1 e2
      exact ⟨fun _ => e1.symm, fun h => absurd (by rw [← e1]; rfl) h⟩
    · have hfo : (Builtin.firstCells i.size n (.slice (some ⟨g', 0, none⟩) n cap)).run P w.drew = .ok xs.toArray w.drew := run_firstCells_some w.drew i.size n ⟨g', 0, none⟩ n cap xs (by rw [hsize]; exact hown.1) (by simpa using hown.cells (g := g') rfl)
      have hr2 := run_append_grow_src (P := P) w t t ty e i z ht hi hz (some ⟨g', 0, none⟩) n cap xs hfo (.slice (some ad) m c) m news hs (by omega) (by omega) (by rw [hby]; exact growslice_fits (by omega) (by omega))
      rw [hr2] at hr
      injection hr with e1 e2
      refine ⟨fun hv' => ?_, fun _ => ?_⟩
      · rw [← e1] at hv'
        simp [Value.ownBlock] at hv'
        omega
      · rw [← e2]; exact Below.heap_alloc _ _ _ hlt.2

theorem wp_append_cap {o : Oper} {a : Act} {K : Act → World → Prop} {Q : Exit → Act → World → Prop} (s x : Operand) (t : TypeId)
    (ho : o.op = .call { callee := .builtin .append, args := #[s, x], argTypes := #[t, t] }) (base : Nat)
    (e : TypeId) (i : TypeInfo) (z : Value) (size bytes : Nat) (ht : P.underlying t = some (.slice e)) (hi : P.info? e = some i) (hz : i.zero = some z)
    (hsize : i.size = size) (hby : i.bytes = bytes) (hzs : z.cells.size = size) (hsz : 0 < size) (v : Value) (n : Nat) (xs : List Value) (hs : a.eval s = v) (hown : w.ownsRow base e size v n xs)
    (ad : Addr) (m c : Nat) (news : List Value) (hx : a.eval x = .slice (some ad) m c) (hl : news.length = m * size) (hc : ∀ j u, news[j]? = some u → w.cell? (ad.add j) = some u) (h1 : ∀ u ∈ news, u.oneCell' = true)
    (h63 : n + m ≤ maxLen) (hbytes : (n + m) * bytes ≤ 140737488355328) (hbase : base ≤ w.heap.size)
    (h : ∀ v' w', w'.ownsRow base e size v' (n + m) (xs ++ news) → w.grownBy w' v.ownBlock → (v'.ownBlock = v.ownBlock ∨ v'.ownBlock = some w.heap.size) → (∀ g c0, v = .slice (some ⟨g, 0, none⟩) n c0 → (v'.ownBlock = some g → v' = .slice (some ⟨g, 0, none⟩) (n + m) c0) ∧ (v'.ownBlock ≠ some g → w'.heap[g]? = w.heap[g]?)) → K (a.put o.dst v') w') : o.wp P a w K Q := by
  obtain ⟨v', w', hr, h2, h3, h5, h6⟩ := run_append_cap (P := P) w t o.type e i z size bytes ht hi hz hsize hby hzs hsz base v n xs hown ad m c news hl hc h1 h63 hbytes hbase
  unfold Oper.wp execOp
  simp only [ho, resolve, invoke, builtin, Sem.run_bind, Sem.run_pure, Result.andThen_ok, List.map_toArray, List.map_cons, List.map_nil, hs, hx, hr]
  exact h v' w' h2 h3 h5 h6

theorem step_append_cap {ops : Array Oper} {o : Oper} {a : Act} {K : Act → World → Prop} {Q : Exit → Act → World → Prop} {E : Prop} (hgd : o.guard = none) (s x : Operand) (t : TypeId)
    (ho : o.op = .call { callee := .builtin .append, args := #[s, x], argTypes := #[t, t] }) (base : Nat)
    (e : TypeId) (i : TypeInfo) (z : Value) (size bytes : Nat) (ht : P.underlying t = some (.slice e)) (hi : P.info? e = some i) (hz : i.zero = some z)
    (hsize : i.size = size) (hby : i.bytes = bytes) (hzs : z.cells.size = size) (hsz : 0 < size) (v : Value) (n : Nat) (xs : List Value) (hs : a.eval s = v) (hown : w.ownsRow base e size v n xs)
    (ad : Addr) (m c : Nat) (news : List Value) (hx : a.eval x = .slice (some ad) m c) (hl : news.length = m * size) (hc : ∀ j u, news[j]? = some u → w.cell? (ad.add j) = some u) (h1 : ∀ u ∈ news, u.oneCell' = true)
    (h63 : n + m ≤ maxLen) (hbytes : (n + m) * bytes ≤ 140737488355328) (hbase : base ≤ w.heap.size)
    (h : ∀ v' w', w'.ownsRow base e size v' (n + m) (xs ++ news) → w.grownBy w' v.ownBlock → (v'.ownBlock = v.ownBlock ∨ v'.ownBlock = some w.heap.size) → (∀ g c0, v = .slice (some ⟨g, 0, none⟩) n c0 → (v'.ownBlock = some g → v' = .slice (some ⟨g, 0, none⟩) (n + m) c0) ∧ (v'.ownBlock ≠ some g → w'.heap[g]? = w.heap[g]?)) → K (a.put o.dst v') w') :
    if Region.wanted o (yielded ops a.tmps) = true then Oper.wp P o a w K Q else E := by
  have hw : Region.wanted o (yielded ops a.tmps) = true := by simp [Region.wanted, hgd]
  rw [if_pos hw]
  exact wp_append_cap w s x t ho base e i z size bytes ht hi hz hsize hby hzs hsz v n xs hs hown ad m c news hx hl hc h1 h63 hbytes hbase h

end

/-- Of one more the front. -/
theorem owns_front {w : World} {base g n c : Nat} {e : TypeId} {xs : List Value} {u : Value} (h : w.ownsRow base e 1 (.slice (some ⟨g, 0, none⟩) (n + 1) c) (n + 1) (xs ++ [u])) (hx : xs.length = n) : w.ownsRow base e 1 (.slice (some ⟨g, 0, none⟩) n c) n xs := by
  refine ⟨by omega, ?_⟩
  rcases h.2 with ⟨h1, h2⟩ | ⟨g', cap, cur, h1, h2, h3, h4, h5, h6, h7⟩
  · cases h1
  · injection h1 with e1 _ e3
    injection e1 with e1
    injection e1 with e1
    subst e1 e3
    refine .inr ⟨g, c, cur, rfl, h2, h3, by omega, h5, h6, ?_⟩
    rw [Nat.mul_one] at h7 ⊢
    have := congrArg (List.take n) h7
    rw [List.take_take, Nat.min_eq_left (by omega)] at this
    rw [this, ← hx]
    exact List.take_left

end Go.Proofs.YtanpplgmdemlaaaGreatDoor

namespace Go.Proofs.YtanpplgmdemlaaaGreatDoor
open Go.RowKit
set_option linter.unusedVariables false
set_option linter.unusedSimpArgs false

structure Sta (wS : World) (VW : Value) (M : List Kd) : Prop where
  sl : SlT wS VW M
  all : ∀ k ∈ M, may k.a k.l = true
  rises : Rises M
  len : M.length ≤ 1000

/-- Each place of u in the plan has a path. -/
def HitAll (M : List Kd) (F : Nat → Option (Nat × List Int)) (u : Nd × Fo) : Prop := ∀ i, i < M.length → nm (M.getD i kd0).t = u → F i ≠ none
def intC (os : List Int) : List Value := os.map fun k => .int .i64 k
def Le (F F' : Nat → Option (Nat × List Int)) : Prop := ∀ i p, F i = some p → F' i = some p
theorem HitAll.mono {M : List Kd} {F F' : Nat → Option (Nat × List Int)} (h : Le F F') (u : Nd × Fo) (k : HitAll M F u) : HitAll M F' u := fun i hi e hn => by
  have := k i hi e
  cases hF : F i with
  | none => exact this hF
  | some p => rw [h i p hF] at hn; cases hn

structure LGr (pb : Nat) (ov : Value) (w w' : World) : Prop where
  os : w'.os = w.os
  tape : w'.tape = w.tape
  output : w'.output = w.output
  size : w.heap.size ≤ w'.heap.size
  block : ∀ k, k < w.heap.size → k ≠ pb → ov.ownBlock ≠ some k → w'.heap[k]? = w.heap[k]?
theorem LGr.refl (pb : Nat) (ov : Value) (w : World) : LGr pb ov w w := ⟨rfl, rfl, rfl, Nat.le_refl _, fun _ _ _ _ => rfl⟩
theorem LGr.trans {pb : Nat} {ov : Value} {a b c : World} (h : LGr pb ov a b) (k : LGr pb ov b c) : LGr pb ov a c := by
  have hs := h.size
  exact ⟨k.os.trans h.os, k.tape.trans h.tape, k.output.trans h.output, Nat.le_trans h.size k.size, fun q h1 h2 h3 => (k.block q (by omega) h2 h3).trans (h.block q h1 h2 h3)⟩
theorem LGr.of {pb : Nat} {ov : Value} {a b : World} (h : Below a.heap.size a b) : LGr pb ov a b := ⟨h.os, h.tape, h.output, h.size, fun q h1 _ _ => h.block q h1⟩

theorem owns_far {w w' : World} {base : Nat} {e : TypeId} {sz n : Nat} {v : Value} {xs : List Value} (h : w.ownsRow base e sz v n xs) (hb : ∀ k, v.ownBlock = some k → w'.heap[k]? = w.heap[k]?) : w'.ownsRow base e sz v n xs := owns_of h hb

theorem intC_get (os : List Int) (j : Nat) (h : j < os.length) : (intC os)[j]? = some (.int .i64 (os.getD j 0)) := by simp [intC, List.getD, List.getElem?_eq_getElem h]
theorem intV_of {w : World} {base lo : Nat} {A : Nat → Prop} {v : Value} {os : List Int} (h : w.ownsRow base 3 1 v os.length (intC os)) (hlo : lo ≤ base) (hA : ∀ q, base ≤ q → ¬ A q) : IntV w lo A v os := by
  rcases h.2 with ⟨h1, h2⟩ | ⟨g, cap, cur, h1, h2, _⟩
  · exact ⟨none, 0, by rw [h1, h2], .inl (List.eq_nil_of_length_eq_zero h2)⟩
  · rw [h1] at h
    have hl := h.lt g rfl
    refine ⟨_, cap, h1, .inr ⟨g, 0, rfl, by omega, hl.2, hA g h2, fun j hj => ?_⟩⟩
    rw [Nat.zero_add, h.cellAt j (by omega), intC_get os j hj]

theorem clone_any {w : World} {base : Nat} {v : Value} {os : List Int} (h : w.ownsRow base 3 1 v os.length (intC os)) (hl : os.length ≤ 100) :
    Calls Tryz.prog 42 #[v] w fun e w' => ∃ v', e = .returned v' ∧ w'.ownsRow w.heap.size 3 1 v' os.length (intC os) ∧ Below w.heap.size w w' := by
  rcases h.2 with ⟨h1, h2⟩ | ⟨g, cap, cur, h1, h2, _⟩
  · rw [h1]
    refine (Tryz.slices_Clone_int_nil 0 0 w).mono ?_
    rintro e w' ⟨rfl, rfl⟩
    have : os = [] := List.eq_nil_of_length_eq_zero h2
    subst this
    exact ⟨_, rfl, World.ownsRow_nil _ _ _ _, Below.refl _ _⟩
  · rw [h1] at h ⊢
    refine (Tryz.slices_Clone_int g 0 os.length cap os w (Nat.le_refl _) (by omega) (fun j hj => ?_)).mono ?_
    · rw [Nat.zero_add, h.cellAt j (by omega), intC_get os j hj]
    · rintro e w' ⟨v', rfl, h3, _, h4⟩
      rw [List.take_length] at h3
      exact ⟨v', rfl, h3, h4⟩

def opV (i : Nat) : Value := .agg #[.int .i64 (if i = 5 then 6 else 7), .int .i64 (if i = 3 then 0 else 1)]
theorem rule_o (i : Nat) (hi : i = 3 ∨ i = 4 ∨ i = 5) (W : World) : (Instr.typeAssert (ruleV ⟨(i : Int), 0, 0, ⟨#[]⟩⟩) 79 76 true).run Tryz.prog W = .ok (.tuple #[opV i, .bool true]) W := by
  rcases hi with rfl | rfl | rfl
  · exact as_o_o 7 0 W
  · exact as_o_o 7 1 W
  · exact as_o_o 6 1 W
theorem rule_noo (i : Nat) (h1 : 1 ≤ i) (h2 : i ≤ 10) (h3 : ¬ (i = 3 ∨ i = 4 ∨ i = 5)) (W : World) : (Instr.typeAssert (ruleV ⟨(i : Int), 0, 0, ⟨#[]⟩⟩) 79 76 true).run Tryz.prog W = .ok (.tuple #[.agg #[.int .i64 0, .int .i64 0], .bool false]) W := by
  rcases (show i = 1 ∨ i = 2 ∨ i = 6 ∨ i = 7 ∨ i = 8 ∨ i = 9 ∨ i = 10 by omega) with rfl | rfl | rfl | rfl | rfl | rfl | rfl
  · exact as_1_o W
  · exact as_s_o ⟨#[]⟩ W
  · exact as_b_o 3 1 W
  · exact as_b_o 4 1 W
  · exact as_b_o 5 2 W
  · exact as_b_o 6 2 W
  · exact as_b_o 7 2 W

theorem kind_two {a : Nd} {l : Fo} (h : may a l = true) (hk : a.kind = 6 ∨ a.kind = 7) : flen l = 2 := by
  rcases formed_cases (may_form h).1 with h1 | h1 | h1 | h1 <;> omega

def ApEnd (wS W : World) (B i : Nat) (k : Kd) (e : Ending) (w' : World) : Prop :=
  Below (W.alloc (.cells #[.int .i64 k.a.kind, .int .i64 k.a.n, .string k.a.s, .slice k.A (flen k.l) k.cap] 27)).heap.size (W.alloc (.cells #[.int .i64 k.a.kind, .int .i64 k.a.n, .string k.a.s, .slice k.A (flen k.l) k.cap] 27)) w' ∧
    ((∃ z, opK (i : Int) k.t = .error z ∧ e = .returned (.tuple #[zeroT, .bool false])) ∨ ∃ j : Kd, opK (i : Int) k.t = .ok j.t ∧ e = .returned (.tuple #[j.val, .bool true]) ∧ j.Ok wS (fun b => b < B))

theorem apply_open {wS W : World} {B : Nat} (i : Nat) (hi : i = 3 ∨ i = 4 ∨ i = 5) (k : Kd) (hk : k.Ok wS (fun b => b < B)) (hB : B ≤ wS.heap.size) (hW : Below wS.heap.size wS W) (ma : may k.a k.l = true) :
    Calls Tryz.prog 44 #[opV i, .slice (some ⟨W.heap.size, 0, none⟩) 1 1] (W.alloc (.cells #[.int .i64 k.a.kind, .int .i64 k.a.n, .string k.a.s, .slice k.A (flen k.l) k.cap] 27)) (ApEnd wS W B i k) := by
  have hsW := hW.size
  have hkW : k.Ok W (fun b => b < W.heap.size) := hk.keep (fun b hb => by omega) (fun b o hb => hW.cell (by simp; omega))
  have hrow : RowT (W.alloc (.cells #[.int .i64 k.a.kind, .int .i64 k.a.n, .string k.a.s, .slice k.A (flen k.l) k.cap] 27)) W.heap.size [k] := by
    rcases sl_one W k ⟨hkW, may_ar _ _ ma⟩ with ⟨h, _⟩ | ⟨g, c, h1, h2⟩
    · cases h
    · injection h1 with e1; injection e1 with e1; injection e1 with e1; rw [e1]; exact h2
  have hba : Below W.heap.size W (W.alloc (.cells #[.int .i64 k.a.kind, .int .i64 k.a.n, .string k.a.s, .slice k.A (flen k.l) k.cap] 27)) := Below.alloc (Below.refl _ _) (Nat.le_refl _) _
  have key : ∀ (kk q : Int) (idx : Nat), (kk = 6 ∨ kk = 7) → (idx = 0 ∧ q = 0 ∨ idx = 1 ∧ q = 1) → opV i = .agg #[.int .i64 kk, .int .i64 q] → opK (i : Int) k.t = openP kk idx k.t →
      Calls Tryz.prog 44 #[opV i, .slice (some ⟨W.heap.size, 0, none⟩) 1 1] (W.alloc (.cells #[.int .i64 k.a.kind, .int .i64 k.a.n, .string k.a.s, .slice k.A (flen k.l) k.cap] 27)) (ApEnd wS W B i k) := by
    intro kk q idx hkk hq hv ho
    rw [hv]
    by_cases hkd : k.a.kind = kk
    · have h2 : flen k.l = 2 := kind_two ma (by omega)
      obtain ⟨j1, j2, hkl, hj1, hj2, hkA, hkb, _, hc1, hc2⟩ := two_kids hk h2
      have hcl : ∀ o, (W.alloc (.cells #[.int .i64 k.a.kind, .int .i64 k.a.n, .string k.a.s, .slice k.A (flen k.l) k.cap] 27)).cell? ⟨k.b, o, none⟩ = wS.cell? ⟨k.b, o, none⟩ := fun o => by
        rw [hba.cell (by simp; omega), hW.cell (by simp; omega)]
      rcases hq with ⟨rfl, rfl⟩ | ⟨rfl, rfl⟩
      · refine (applyOpen0 kk k j1 [] W.heap.size 1 1 _ hrow (by omega) hkd h2 hkA (by simp; omega) ⟨(hcl _).trans hc1.1, (hcl _).trans hc1.2.1, (hcl _).trans hc1.2.2.1, (hcl _).trans hc1.2.2.2⟩).mono ?_
        rintro e w' ⟨rfl, hb⟩
        refine ⟨hb, .inr ⟨j1, ?_, rfl, hj1⟩⟩
        rw [ho]; unfold openP; rw [if_pos hkd]; simp only [Kd.t, hkl]; rfl
      · refine (applyOpen1 kk k j2 [] W.heap.size 1 1 _ hrow (by omega) hkd h2 hkA (by simp; omega) ⟨(hcl _).trans hc2.1, (hcl _).trans hc2.2.1, (hcl _).trans hc2.2.2.1, (hcl _).trans hc2.2.2.2⟩).mono ?_
        rintro e w' ⟨rfl, hb⟩
        refine ⟨hb, .inr ⟨j2, ?_, rfl, hj2⟩⟩
        rw [ho]; unfold openP; rw [if_pos hkd]; simp only [Kd.t, hkl]; rfl
    · refine (applyOpenNo kk q k [] W.heap.size 1 1 _ hrow (by omega) hkd).mono ?_
      rintro e w' ⟨rfl, hb⟩
      refine ⟨hb, .inl ⟨3, ?_, rfl⟩⟩
      rw [ho]; unfold openP; rw [if_neg hkd]
  rcases hi with rfl | rfl | rfl
  · exact key 7 0 0 (.inr rfl) (.inl ⟨rfl, rfl⟩) rfl rfl
  · exact key 7 1 1 (.inr rfl) (.inr ⟨rfl, rfl⟩) rfl rfl
  · exact key 6 1 1 (.inl rfl) (.inr ⟨rfl, rfl⟩) rfl rfl

/-- A path is kept. -/
theorem PSt.store {wS w : World} {VW : Value} {M : List Kd} {us : List (Nd × Fo)} {F : Nat → Option (Nat × List Int)} {A : Nat → Prop} {mv v : Value} (h : PSt wS w VW M us F A mv) (i : Nat) (hi : i < M.length) (hF : F i = none) (num : Nat) (os : List Int) (hv : IntV w (wS.heap.size + 2) A v os) (ho : PathOk us (M.getD i kd0).t num os) :
    PSt wS (((w.setCell ⟨wS.heap.size, i * 3, none⟩ (.bool true)).setCell ⟨wS.heap.size, i * 3 + 1, none⟩ (.int .i64 (num : Int))).setCell ⟨wS.heap.size, i * 3 + 2, none⟩ v) VW M us (fun j => if j = i then some (num, os) else F j) A mv := by
  have hs := h.size
  have hr := h.row i hi
  rw [hF] at hr
  obtain ⟨r0, r1, r2⟩ := hr
  have hfar : ∀ q, q ≠ wS.heap.size → (((w.setCell ⟨wS.heap.size, i * 3, none⟩ (.bool true)).setCell ⟨wS.heap.size, i * 3 + 1, none⟩ (.int .i64 (num : Int))).setCell ⟨wS.heap.size, i * 3 + 2, none⟩ v).heap[q]? = w.heap[q]? := fun q hq => by
    rw [Below.heap_setCell _ _ _ _ hq, Below.heap_setCell _ _ _ _ hq, Below.heap_setCell _ _ _ _ hq]
  have hsz : (((w.setCell ⟨wS.heap.size, i * 3, none⟩ (.bool true)).setCell ⟨wS.heap.size, i * 3 + 1, none⟩ (.int .i64 (num : Int))).setCell ⟨wS.heap.size, i * 3 + 2, none⟩ v).heap.size = w.heap.size := by rw [size_setK, size_setK, size_setK]
  have hoth : ∀ j, j ≠ i * 3 → j ≠ i * 3 + 1 → j ≠ i * 3 + 2 → (((w.setCell ⟨wS.heap.size, i * 3, none⟩ (.bool true)).setCell ⟨wS.heap.size, i * 3 + 1, none⟩ (.int .i64 (num : Int))).setCell ⟨wS.heap.size, i * 3 + 2, none⟩ v).cell? ⟨wS.heap.size, j, none⟩ = w.cell? ⟨wS.heap.size, j, none⟩ := fun j h1 h2 h3 => by
    rw [World.cell?_setCell_other _ _ _ _ (by intro e; injection e with _ e; exact h3 e.symm), World.cell?_setCell_other _ _ _ _ (by intro e; injection e with _ e; exact h2 e.symm), World.cell?_setCell_other _ _ _ _ (by intro e; injection e with _ e; exact h1 e.symm)]
  have c1 : ∀ j, (((w.setCell ⟨wS.heap.size, i * 3, none⟩ (.bool true)).setCell ⟨wS.heap.size, i * 3 + 1, none⟩ (.int .i64 (num : Int))).setCell ⟨wS.heap.size, i * 3 + 2, none⟩ v).cell? ⟨wS.heap.size + 1, j, none⟩ = w.cell? ⟨wS.heap.size + 1, j, none⟩ := fun j => World.cell?_of_block (a := ⟨wS.heap.size + 1, j, none⟩) (hfar (wS.heap.size + 1) (by omega))
  have k1 : (w.setCell ⟨wS.heap.size, i * 3, none⟩ (.bool true)).cell? ⟨wS.heap.size, i * 3 + 1, none⟩ = some (.int .i64 0) := by rw [World.cell?_setCell_other _ _ _ _ (by simp)]; exact r1
  have k2 : ((w.setCell ⟨wS.heap.size, i * 3, none⟩ (.bool true)).setCell ⟨wS.heap.size, i * 3 + 1, none⟩ (.int .i64 (num : Int))).cell? ⟨wS.heap.size, i * 3 + 2, none⟩ = some (.slice none 0 0) := by rw [World.cell?_setCell_other _ _ _ _ (by simp), World.cell?_setCell_other _ _ _ _ (by simp)]; exact r2
  have hblk : ∀ q, wS.heap.size + 2 ≤ q → q < w.heap.size → ¬ A q → (((w.setCell ⟨wS.heap.size, i * 3, none⟩ (.bool true)).setCell ⟨wS.heap.size, i * 3 + 1, none⟩ (.int .i64 (num : Int))).setCell ⟨wS.heap.size, i * 3 + 2, none⟩ v).heap[q]? = w.heap[q]? ∧ ¬ A q := fun q h1 _ h3 => ⟨hfar q (by omega), h3⟩
  refine ⟨h.below.trans ⟨rfl, rfl, rfl, by rw [hsz]; exact Nat.le_refl _, fun q hq => hfar q (by omega)⟩, by rw [hsz]; exact hs, (c1 0).trans h.p0, (c1 1).trans h.p1, (c1 2).trans h.p2, fun j => ?_, fun j => ?_, fun j hj => ?_, fun j hj p hp => ?_⟩
  · rw [World.frozen?_setCell, World.frozen?_setCell, World.frozen?_setCell]; exact h.pf j
  · rw [World.frozen?_setCell, World.frozen?_setCell, World.frozen?_setCell]; exact h.fz j
  · by_cases e : j = i
    · subst e
      rw [if_pos rfl]
      refine ⟨?_, ?_, v, World.cell?_setCell_same _ _ _ k2, hv.keep (by rw [hsz]; exact Nat.le_refl _) hblk⟩
      · rw [World.cell?_setCell_other _ _ _ _ (by simp), World.cell?_setCell_other _ _ _ _ (by simp)]; exact World.cell?_setCell_same _ _ _ r0
      · rw [World.cell?_setCell_other _ _ _ _ (by simp)]; exact World.cell?_setCell_same _ _ _ k1
    · rw [if_neg e]
      have hr := h.row j hj
      cases hFj : F j with
      | none =>
        rw [hFj] at hr
        obtain ⟨q0, q1, q2⟩ := hr
        exact ⟨(hoth _ (by omega) (by omega) (by omega)).trans q0, (hoth _ (by omega) (by omega) (by omega)).trans q1, (hoth _ (by omega) (by omega) (by omega)).trans q2⟩
      | some p =>
        rw [hFj] at hr
        obtain ⟨q0, q1, u, q2, q3⟩ := hr
        exact ⟨(hoth _ (by omega) (by omega) (by omega)).trans q0, (hoth _ (by omega) (by omega) (by omega)).trans q1, u, (hoth _ (by omega) (by omega) (by omega)).trans q2, q3.keep (by rw [hsz]; exact Nat.le_refl _) hblk⟩
  · by_cases e : j = i
    · subst e
      simp only [if_pos] at hp
      injection hp with hp
      subst hp
      exact ho
    · simp only [if_neg e] at hp
      exact h.ok j hj p hp

theorem PSt.less {wS w : World} {VW : Value} {M : List Kd} {us : List (Nd × Fo)} {F : Nat → Option (Nat × List Int)} {A A' : Nat → Prop} {mv : Value} (h : PSt wS w VW M us F A mv) (hA : ∀ q, A' q → A q) : PSt wS w VW M us F A' mv :=
  h.keep h.below (Nat.le_refl _) rfl rfl (fun q _ _ h3 => ⟨rfl, fun h4 => h3 (hA q h4)⟩)

end Go.Proofs.YtanpplgmdemlaaaGreatDoor

namespace Go.Proofs.YtanpplgmdemlaaaGreatDoor
open Go.RowKit
set_option linter.unusedVariables false
set_option linter.unusedSimpArgs false

theorem Tryz.infoInt7 : (Tryz.prog.info? 3).map (fun i => (i.zero, i.size, i.bytes)) = some (some (.int .i64 0), 1, 8) := by kernel_rfl

theorem allF_mem {P : Nd → Fo → Prop} : ∀ (f : Fo), AllF P f → ∀ u ∈ kidL f, P u.1 u.2
  | .nil, _, u, hu => by cases hu
  | .node _ _ a l r, h, u, hu => by
    rw [kidL] at hu
    rcases List.mem_cons.1 hu with rfl | hu
    · exact h.1
    · exact allF_mem r h.2 u hu

def LookEnd (wS w : World) (VW : Value) (M : List Kd) (us : List (Nd × Fo)) (F : Nat → Option (Nat × List Int)) (A : Nat → Prop) (ov : Value) (os : List Int) (t : Nd × Fo) (e : Ending) (w' : World) : Prop :=
  e = .returned (.tuple #[]) ∧ ∃ F', PSt wS w' VW M us F' A (.slice none 0 0) ∧ Le F F' ∧ CovT (HitAll M F') t ∧ LGr wS.heap.size ov w w' ∧ w'.ownsRow (wS.heap.size + 2) 3 1 ov os.length (intC os)

def LookOk (a : Nd) (l : Fo) : Prop := ∀ (wS w : World) (VW : Value) (M : List Kd) (us : List (Nd × Fo)) (F : Nat → Option (Nat × List Int)) (A : Nat → Prop) (v : Value) (B num : Nat) (os : List Int) (ov : Value) (fb : Bool) (s : Nd × Fo),
  Sta wS VW M → PSt wS w VW M us F A (.slice none 0 0) → RepV wS B a l v → B ≤ wS.heap.size → may a l = true → us[num]? = some s → may s.1 s.2 = true → goT os s = some (a, l) → (∀ k ∈ os, k = 3 ∨ k = 4 ∨ k = 5) → DpT (os.length + 1) (a, l) →
  w.ownsRow (wS.heap.size + 2) 3 1 ov os.length (intC os) → (∀ q, ov.ownBlock = some q → A q) → (∀ q, A q → q < w.heap.size) →
  Calls Tryz.prog 21 #[.pointer (some ⟨wS.heap.size + 1, 0, none⟩), v, .agg #[.bool fb, .int .i64 (num : Int), ov]] w (LookEnd wS w VW M us F A ov os (a, l))

structure LMid (wS w : World) (VW : Value) (M : List Kd) (us : List (Nd × Fo)) (F : Nat → Option (Nat × List Int)) (A : Nat → Prop) (num : Nat) (os : List Int) (ov : Value) (a : Nd) (l : Fo) (TA : Option Addr) (cap : Nat) (F1 : Nat → Option (Nat × List Int)) (wr : World) : Prop where
  p : PSt wS wr VW M us F1 A (.slice none 0 0)
  le : Le F F1
  hit : HitAll M F1 (nm (a, l))
  gr : LGr wS.heap.size ov w wr
  own : wr.ownsRow (wS.heap.size + 2) 3 1 ov os.length (intC os)
  bx : Box4 wr w.heap.size (.int .i64 a.kind) (.int .i64 a.n) (.string a.s) (.slice TA (flen l) cap)
  ys : w.heap.size + 1 < wr.heap.size
  y1 : wr.cell? ⟨w.heap.size + 1, 1, none⟩ = some (.int .i64 (num : Int))
  y2 : wr.cell? ⟨w.heap.size + 1, 2, none⟩ = some ov

section
variable {wS w : World} {VW : Value} {M : List Kd} {us : List (Nd × Fo)} {F : Nat → Option (Nat × List Int)} {A : Nat → Prop} {num : Nat} {os : List Int} {ov : Value} {a : Nd} {l : Fo} {TA : Option Addr} {cap : Nat} {F1 : Nat → Option (Nat × List Int)}

theorem LMid.below {wr W : World} (h : LMid wS w VW M us F A num os ov a l TA cap F1 wr) (hb : Below wr.heap.size wr W) : LMid wS w VW M us F A num os ov a l TA cap F1 W :=
  ⟨h.p.belowW hb, h.le, h.hit, h.gr.trans (LGr.of hb), owns_below h.own hb, h.bx.below hb, Nat.lt_of_lt_of_le h.ys hb.size, (hb.cell (p := ⟨w.heap.size + 1, 1, none⟩) (by simpa using h.ys)).trans h.y1, (hb.cell (p := ⟨w.heap.size + 1, 2, none⟩) (by simpa using h.ys)).trans h.y2⟩

/-- The way with one more opening, and what comes back of it. -/
theorem LMid.next {w3 w5 : World} {v5 : Value} {x : Int} {o : Obj} (h : LMid wS w VW M us F A num os ov a l TA cap F1 w3) (hAo : ∀ q, ov.ownBlock = some q → A q) (hAw : ∀ q, A q → q < w.heap.size) (hS : wS.heap.size + 2 ≤ w.heap.size)
    (hown5 : w5.ownsRow (wS.heap.size + 2) 3 1 v5 (os.length + 1) (intC os ++ [.int .i64 x])) (hgrow5 : (w3.drew.alloc o).grownBy w5 ov.ownBlock) (hat5 : v5.ownBlock = ov.ownBlock ∨ v5.ownBlock = some (w3.drew.alloc o).heap.size)
    (hcap5 : ∀ g c0, ov = .slice (some ⟨g, 0, none⟩) os.length c0 → (v5.ownBlock = some g → v5 = .slice (some ⟨g, 0, none⟩) (os.length + 1) c0) ∧ (v5.ownBlock ≠ some g → w5.heap[g]? = (w3.drew.alloc o).heap[g]?)) :
    PSt wS w5 VW M us F1 (fun q => A q ∨ v5.ownBlock = some q) (.slice none 0 0) ∧ (∀ q, v5.ownBlock = some q → A q ∨ v5.ownBlock = some q) ∧ (∀ q, A q ∨ v5.ownBlock = some q → q < w5.heap.size) ∧ (∀ q, q < w3.heap.size → ov.ownBlock ≠ some q → w5.heap[q]? = w3.heap[q]?) ∧ (∀ q, v5.ownBlock = some q → q < w.heap.size ∨ w3.heap.size ≤ q) ∧ w3.heap.size ≤ w5.heap.size ∧
      ∀ F2 w6, PSt wS w6 VW M us F2 (fun q => A q ∨ v5.ownBlock = some q) (.slice none 0 0) → Le F1 F2 → LGr wS.heap.size v5 w5 w6 → w6.ownsRow (wS.heap.size + 2) 3 1 v5 (os.length + 1) (intC os ++ [.int .i64 x]) → LMid wS w VW M us F A num os ov a l TA cap F2 w6 := by
  have hg := h.gr.size
  have hs5 : w3.heap.size + 1 ≤ w5.heap.size := by have := hgrow5.size; simpa using this
  have hblk : ∀ q, q < w3.heap.size → ov.ownBlock ≠ some q → w5.heap[q]? = w3.heap[q]? := fun q hq hv => by
    rw [hgrow5.block q (by simp; omega) (fun e => hv e.symm)]; exact Below.heap_alloc _ _ _ hq
  have hvo : ∀ q, wS.heap.size + 2 ≤ q → q < w3.heap.size → ¬ A q → ov.ownBlock ≠ some q ∧ v5.ownBlock ≠ some q := fun q _ h2 h3 => ⟨fun e => h3 (hAo q e), fun e => by
    rcases hat5 with k | k
    · exact h3 (hAo q (by rw [← k]; exact e))
    · rw [e] at k; injection k with k; simp at k; omega⟩
  have holt : ∀ q, ov.ownBlock = some q → q < w.heap.size ∧ wS.heap.size + 2 ≤ q := fun q e => ⟨hAw q (hAo q e), (h.own.lt q e).1⟩
  have hv5 : ∀ q, v5.ownBlock = some q → q < w.heap.size ∨ w3.heap.size ≤ q := fun q e => by
    rcases hat5 with k | k
    · exact .inl (holt q (by rw [← k]; exact e)).1
    · rw [e] at k; injection k with k; simp at k; exact .inr (by omega)
  have hp5 : PSt wS w5 VW M us F1 (fun q => A q ∨ v5.ownBlock = some q) (.slice none 0 0) := by
    refine h.p.keep ⟨hgrow5.os.trans h.p.below.os, hgrow5.tape.trans h.p.below.tape, hgrow5.output.trans h.p.below.output, by have := h.p.size; omega, fun q hq => ?_⟩ (by omega) (hblk _ (by omega) (fun e => by have := holt _ e; omega)) (hblk _ (by omega) (fun e => by have := holt _ e; omega)) (fun q h1 h2 h3 => ⟨hblk q h2 (hvo q h1 h2 h3).1, fun e => ?_⟩)
    · rw [hblk q (by have := h.p.size; omega) (fun e => by have := holt _ e; omega)]; exact h.p.below.block q hq
    · rcases e with e | e
      · exact h3 e
      · exact (hvo q h1 h2 h3).2 e
  refine ⟨hp5, fun q e => .inr e, fun q e => ?_, hblk, hv5, by omega, fun F2 w6 hp6 hle hgr hown6 => ?_⟩
  · rcases e with e | e
    · have := hAw q e; omega
    · exact (hown5.lt q e).2
  · have hs6 := hgr.size
    have far : ∀ q, q < w3.heap.size → q ≠ wS.heap.size → ov.ownBlock ≠ some q → (w.heap.size ≤ q ∨ v5.ownBlock ≠ some q) → w6.heap[q]? = w3.heap[q]? := fun q h1 h2 h3 h4 => by
      rw [hgr.block q (by omega) h2 (fun e => ?_), hblk q h1 h3]
      rcases h4 with h4 | h4
      · rcases hv5 q e with h5 | h5 <;> omega
      · exact h4 e
    have hbox : ∀ q, w.heap.size ≤ q → q < w3.heap.size → w6.heap[q]? = w3.heap[q]? := fun q h1 h2 => far q h2 (by omega) (fun e => by have := holt q e; omega) (.inl h1)
    refine ⟨hp6.less (fun q e => .inl e), fun i p hi => hle i p (h.le i p hi), HitAll.mono hle _ h.hit, ⟨hgr.os.trans (hgrow5.os.trans h.gr.os), hgr.tape.trans (hgrow5.tape.trans h.gr.tape), hgr.output.trans (hgrow5.output.trans h.gr.output), by omega, fun q h1 h2 h3 => ?_⟩, ?_, h.bx.of (hbox _ (Nat.le_refl _) h.bx.1) (by have := h.bx.1; omega), by have := h.ys; omega, ?_, ?_⟩
    · rw [far q (by omega) h2 h3 (.inr (fun e => ?_))]
      · exact h.gr.block q h1 h2 h3
      · rcases hat5 with k | k
        · exact h3 (by rw [← k]; exact e)
        · rw [e] at k; injection k with k; simp at k; omega
    · rcases h.own.2 with ⟨h1, h2⟩ | ⟨g, c0, cur, h1, h2, _⟩
      · have : os = [] := List.eq_nil_of_length_eq_zero h2
        subst this
        rw [h1]
        exact World.ownsRow_nil _ _ _ _
      · by_cases e : v5.ownBlock = some g
        · have := (hcap5 g c0 h1).1 e
          rw [this] at hown6
          rw [h1]
          exact owns_front hown6 (by simp [intC])
        · have hgs := h.own.lt g (by rw [h1]; rfl)
          refine owns_far h.own (fun k hk => ?_)
          have hkg : k = g := by rw [h1] at hk; simp [Value.ownBlock] at hk; exact hk.symm
          subst hkg
          rw [hgr.block k (by omega) (by omega) e]
          rw [(hcap5 k c0 h1).2 e]
          exact Below.heap_alloc _ _ _ hgs.2
    · exact (World.cell?_of_block (a := ⟨w.heap.size + 1, 1, none⟩) (hbox (w.heap.size + 1) (by omega) h.ys)).trans h.y1
    · exact (World.cell?_of_block (a := ⟨w.heap.size + 1, 2, none⟩) (hbox (w.heap.size + 1) (by omega) h.ys)).trans h.y2
end

theorem rises_one {M : List Kd} (h : Rises M) {i j : Nat} (hi : i < M.length) (hj : j < M.length) (e : nm (M.getD i kd0).t = nm (M.getD j kd0).t) : i = j := by
  have h0 : ordK (M.getD i kd0) (M.getD j kd0) = 0 := nm_iff.1 e
  have h1 : ordK (M.getD j kd0) (M.getD i kd0) = 0 := nm_iff.1 e.symm
  rcases Nat.lt_trichotomy i j with k | k | k
  · have := rises_lt h k hj; omega
  · exact k
  · have := rises_lt h k hi; omega

/-- A path kept at t's place. -/
theorem mid_store {wS w : World} {VW : Value} {M : List Kd} {us : List (Nd × Fo)} {F : Nat → Option (Nat × List Int)} {A : Nat → Prop} {num : Nat} {os : List Int} {ov : Value} {a : Nd} {l : Fo} {TA : Option Addr} {cap : Nat} {w4 : World} {v' : Value} {i : Nat} (hr : Rises M)
    (hp : PSt wS w4 VW M us F A (.slice none 0 0)) (hown : w4.ownsRow (wS.heap.size + 2) 3 1 ov os.length (intC os)) (hb : Below w.heap.size w w4) (hS : wS.heap.size + 2 ≤ w.heap.size) (bx : Box4 w4 w.heap.size (.int .i64 a.kind) (.int .i64 a.n) (.string a.s) (.slice TA (flen l) cap))
    (ys : w.heap.size + 1 < w4.heap.size) (y1 : w4.cell? ⟨w.heap.size + 1, 1, none⟩ = some (.int .i64 (num : Int))) (y2 : w4.cell? ⟨w.heap.size + 1, 2, none⟩ = some ov) (hi : i < M.length) (hF : F i = none) (ho : ordT (M.getD i kd0).a (M.getD i kd0).l a l = 0) (hpt : PathOk us (a, l) num os) (hv : IntV w4 (wS.heap.size + 2) A v' os) :
    LMid wS w VW M us F A num os ov a l TA cap (fun j => if j = i then some (num, os) else F j) (((w4.setCell ⟨wS.heap.size, i * 3, none⟩ (.bool true)).setCell ⟨wS.heap.size, i * 3 + 1, none⟩ (.int .i64 (num : Int))).setCell ⟨wS.heap.size, i * 3 + 2, none⟩ v') := by
  have e : nm (M.getD i kd0).t = nm (a, l) := nm_iff.2 ho
  have hsz : (((w4.setCell ⟨wS.heap.size, i * 3, none⟩ (.bool true)).setCell ⟨wS.heap.size, i * 3 + 1, none⟩ (.int .i64 (num : Int))).setCell ⟨wS.heap.size, i * 3 + 2, none⟩ v').heap.size = w4.heap.size := by rw [size_setK, size_setK, size_setK]
  have hfar : ∀ q, q ≠ wS.heap.size → (((w4.setCell ⟨wS.heap.size, i * 3, none⟩ (.bool true)).setCell ⟨wS.heap.size, i * 3 + 1, none⟩ (.int .i64 (num : Int))).setCell ⟨wS.heap.size, i * 3 + 2, none⟩ v').heap[q]? = w4.heap[q]? := fun q hq => by
    rw [Below.heap_setCell _ _ _ _ hq, Below.heap_setCell _ _ _ _ hq, Below.heap_setCell _ _ _ _ hq]
  obtain ⟨p1, p2, s, u, p3, p4, p5, p6⟩ := hpt
  refine ⟨PSt.store hp i hi hF num os hv ⟨p1, p2, s, u, p3, p4, p5, p6.trans e.symm⟩, fun j p h => ?_, fun j hj h1 h2 => ?_, ⟨hb.os, hb.tape, hb.output, by rw [hsz]; exact hb.size, fun q h1 h2 h3 => (hfar q h2).trans (hb.block q h1)⟩, ?_, bx.of (hfar _ (by omega)) (by rw [hsz]; exact bx.1), by rw [hsz]; exact ys, ?_, ?_⟩
  · show (if j = i then some (num, os) else F j) = some p
    rw [if_neg (fun h3 => by rw [h3, hF] at h; cases h)]; exact h
  · have : j = i := rises_one hr hj hi (h1.trans e.symm)
    simp only [this, if_true] at h2
    cases h2
  · exact owns_far hown (fun k hk => hfar k (by have := (hown.lt k hk).1; omega))
  · exact (World.cell?_of_block (a := ⟨w.heap.size + 1, 1, none⟩) (hfar (w.heap.size + 1) (by omega))).trans y1
  · exact (World.cell?_of_block (a := ⟨w.heap.size + 1, 2, none⟩) (hfar (w.heap.size + 1) (by omega))).trans y2

theorem cov_of {X : Nd × Fo → Prop} {a : Nd} {l : Fo} (ma : may a l = true) (hx : X (nm (a, l))) (h : ∀ k : Nat, 3 ≤ k → k ≤ 5 → ∀ u, opK (k : Int) (a, l) = .ok u → CovT X u) : CovT X (a, l) := by
  refine ⟨hx, ?_⟩
  show CovF X (skipOf a.kind) l
  have hfl : flen l ≤ 2 := by rcases formed_cases (may_form ma).1 with h1 | h1 | h1 | h1 <;> omega
  by_cases h7 : a.kind = 7
  · have h2 := kind_two ma (.inr h7)
    match l, h2 with
    | .node x y k0 l0 (.node x' y' k1 l1 .nil), _ =>
      have e : skipOf a.kind = 0 := by unfold skipOf; rw [if_pos h7]
      rw [e]
      refine ⟨h 3 (by omega) (by omega) (k0, l0) ?_, h 4 (by omega) (by omega) (k1, l1) ?_, trivial⟩
      · show openP 7 0 _ = _; unfold openP; rw [if_pos h7]; rfl
      · show openP 7 1 _ = _; unfold openP; rw [if_pos h7]; rfl
    | .nil, h2 => simp [flen] at h2
    | .node _ _ _ _ .nil, h2 => simp [flen] at h2
    | .node _ _ _ _ (.node _ _ _ _ (.node _ _ _ _ _)), h2 => simp [flen] at h2
  · by_cases h6 : a.kind = 6
    · have h2 := kind_two ma (.inl h6)
      match l, h2 with
      | .node x y k0 l0 (.node x' y' k1 l1 .nil), _ =>
        have e : skipOf a.kind = 1 := by unfold skipOf; rw [if_neg h7, if_pos h6]
        rw [e]
        refine ⟨h 5 (by omega) (by omega) (k1, l1) ?_, trivial⟩
        show openP 6 1 _ = _; unfold openP; rw [if_pos h6]; rfl
      | .nil, h2 => simp [flen] at h2
      | .node _ _ _ _ .nil, h2 => simp [flen] at h2
      | .node _ _ _ _ (.node _ _ _ _ (.node _ _ _ _ _)), h2 => simp [flen] at h2
    · have e : skipOf a.kind = 3 := by unfold skipOf; rw [if_neg h7, if_neg h6]
      rw [e]
      match l, hfl with
      | .nil, _ => trivial
      | .node _ _ _ _ .nil, _ => trivial
      | .node _ _ _ _ (.node _ _ _ _ .nil), _ => trivial
      | .node _ _ _ _ (.node _ _ _ _ (.node _ _ _ _ _)), h2 => simp [flen] at h2

def LkRel (wS w : World) (VW : Value) (M : List Kd) (us : List (Nd × Fo)) (F : Nat → Option (Nat × List Int)) (A : Nat → Prop) (num : Nat) (os : List Int) (ov : Value) (a : Nd) (l : Fo) (TA : Option Addr) (cap : Nat) (iv : Value) (wr : World) : Prop :=
  ∃ (i : Nat) (F1 : Nat → Option (Nat × List Int)), iv = .int .i64 (i : Int) ∧ 1 ≤ i ∧ i ≤ 11 ∧ LMid wS w VW M us F A num os ov a l TA cap F1 wr ∧ ∀ k : Nat, 3 ≤ k → k < i → k ≤ 5 → ∀ u, opK (k : Int) (a, l) = .ok u → CovT (HitAll M F1) u

set_option maxRecDepth 100000 in
set_option maxHeartbeats 2000000 in
theorem look_step (a : Nd) (l : Fo) (ih : AllF LookOk l) : LookOk a l := by
  rintro wS w VW M us F A v B num os ov fb s hst hp ⟨hf, TA, cap, b, o, rfl, hn, hA, hr⟩ hB ma hs1 hs2 hgo hok hdp hown hAo hAw
  have hol : os.length ≤ 15 := by have := hdp.le; omega
  have HK : Hid ((⟨0, 0, a, l, TA, cap, b, o⟩ : Kd).Ok wS (fun q => q < B)) := ⟨hf, hn, hA, hr.toG⟩
  have HV : Hid (RepV wS B a l (.agg #[.int .i64 a.kind, .int .i64 a.n, .string a.s, .slice TA (flen l) cap])) := ⟨hf, TA, cap, b, o, rfl, hn, hA, hr⟩
  have HST : Hid (Sta wS VW M) := hst
  have HAO : Hid ((∀ q, ov.ownBlock = some q → A q) ∧ (∀ q, A q → q < w.heap.size)) := ⟨hAo, hAw⟩
  have HGO : Hid (us[num]? = some s ∧ may s.1 s.2 = true ∧ goT os s = some (a, l) ∧ (∀ k ∈ os, k = 3 ∨ k = 4 ∨ k = 5) ∧ DpT (os.length + 1) (a, l)) := ⟨hs1, hs2, hgo, hok, hdp⟩
  have HIH : Hid (AllF LookOk l) := ih
  have HPT : Hid (PathOk us (a, l) num os) := ⟨hok, hol, s, (a, l), hs1, hs2, hgo, rfl⟩
  have hS := hp.size
  have hsz0 := hp.below.size
  have hb0 : Below w.heap.size w ((w.alloc (.cells #[.int .i64 a.kind, .int .i64 a.n, .string a.s, .slice TA (flen l) cap] 27)).alloc (.cells #[.bool fb, .int .i64 (num : Int), ov] 52)) := (Below.alloc (Below.refl _ _) (Nat.le_refl _) _).alloc (by simp) _
  have hbx0 : Box4 ((w.alloc (.cells #[.int .i64 a.kind, .int .i64 a.n, .string a.s, .slice TA (flen l) cap] 27)).alloc (.cells #[.bool fb, .int .i64 (num : Int), ov] 52)) w.heap.size (.int .i64 a.kind) (.int .i64 a.n) (.string a.s) (.slice TA (flen l) cap) := (Box4.new w _ _ _ _ _).alloc _
  have hy0 : w.heap.size + 1 < ((w.alloc (.cells #[.int .i64 a.kind, .int .i64 a.n, .string a.s, .slice TA (flen l) cap] 27)).alloc (.cells #[.bool fb, .int .i64 (num : Int), ov] 52)).heap.size := by simp
  have hy1 : ((w.alloc (.cells #[.int .i64 a.kind, .int .i64 a.n, .string a.s, .slice TA (flen l) cap] 27)).alloc (.cells #[.bool fb, .int .i64 (num : Int), ov] 52)).cell? ⟨w.heap.size + 1, 1, none⟩ = some (.int .i64 (num : Int)) := by simp [go_sem]
  have hy2 : ((w.alloc (.cells #[.int .i64 a.kind, .int .i64 a.n, .string a.s, .slice TA (flen l) cap] 27)).alloc (.cells #[.bool fb, .int .i64 (num : Int), ov] 52)).cell? ⟨w.heap.size + 1, 2, none⟩ = some ov := by simp [go_sem]
  have hp0 := hp.belowW hb0
  have hown0 := owns_below hown hb0
  have H0 : Hid (_ ∧ _ ∧ _) := ⟨hp0, hown0, hb0⟩
  clear hr hA hst hp hown hAo hAw hs1 hs2 hgo hok hdp ih hp0 hown0 hb0
  obtain ⟨OA, oc, rfl⟩ := owns_val H0.out.2.1
  go_enter Tryz.func21, Tryz.ntmps21
  go_upto_region 1 with fail
  generalize (w.alloc (.cells #[.int .i64 a.kind, .int .i64 a.n, .string a.s, .slice TA (flen l) cap] 27)).alloc (.cells #[.bool fb, .int .i64 (num : Int), .slice OA os.length oc] 52) = w0 at *
  have e0 := H0.out.1.p0
  have hPlt : wS.heap.size + 1 < w0.heap.size := by have := H0.out.2.2.size; omega
  have k1 : ∀ W, Below w0.heap.size w0 W → Calls Tryz.prog 40 #[VW, .agg #[.int .i64 a.kind, .int .i64 a.n, .string a.s, .slice TA (flen l) cap], .func (.func 41) #[] #[]] W (BsEnd M a l W) := fun W hW => by
    have hbS : Below wS.heap.size wS W := H0.out.1.below.trans (hW.mono (by omega))
    exact bs_any M VW a l _ B W (HST.out.sl.below hbS) HST.out.all HST.out.rises HST.out.len (HV.out.below (hbS.mono hB)) (by have := hbS.size; omega) ma
  obtain ⟨x0, x1, x2, x3, x4⟩ := hbx0
  have HS0 : Hid (∀ W, Below w0.heap.size w0 W → (W.cell? ⟨wS.heap.size + 1, 0, none⟩ = some VW ∧ W.cell? ⟨w.heap.size, 0, none⟩ = some (.int .i64 a.kind) ∧ W.cell? ⟨w.heap.size, 1, none⟩ = some (.int .i64 a.n) ∧ W.cell? ⟨w.heap.size, 2, none⟩ = some (.string a.s) ∧ W.cell? ⟨w.heap.size, 3, none⟩ = some (.slice TA (flen l) cap)) ∧ Below w0.heap.size w0 W) := fun W hW =>
    ⟨⟨(hW.cell hPlt).trans e0, (hW.cell x0).trans x1, (hW.cell x0).trans x2, (hW.cell x0).trans x3, (hW.cell x0).trans x4⟩, hW⟩
  go_region_held3 (fun W => (W.cell? ⟨wS.heap.size + 1, 0, none⟩ = some VW ∧ W.cell? ⟨w.heap.size, 0, none⟩ = some (.int .i64 a.kind) ∧ W.cell? ⟨w.heap.size, 1, none⟩ = some (.int .i64 a.n) ∧ W.cell? ⟨w.heap.size, 2, none⟩ = some (.string a.s) ∧ W.cell? ⟨w.heap.size, 3, none⟩ = some (.slice TA (flen l) cap)) ∧ Below w0.heap.size w0 W)
    (first | assumption | exact HS0.out _ (Below.drew (Below.refl _ _)) | exact HS0.out _ h2)
    ((go_at_call 40; refine (k1 _ (Below.drew (Below.refl _ _))).mono ?_; rintro e w2 ⟨i, is, rfl, h2', hyes, hno⟩; have h2 : Below w0.heap.size w0 w2 := Below.trans (Below.drew (Below.refl _ _)) h2'))
  have HYN : Hid ((is = true → i < M.length ∧ ordT (M.getD i kd0).a (M.getD i kd0).l a l = 0) ∧ (is = false → ∀ k, k < M.length → ordT (M.getD k kd0).a (M.getD k kd0).l a l ≠ 0)) := ⟨hyes, hno⟩
  have H2 : Hid (PSt wS w2 VW M us F A (.slice none 0 0) ∧ w2.ownsRow (wS.heap.size + 2) 3 1 (.slice OA os.length oc) os.length (intC os) ∧ Below w.heap.size w w2) := ⟨H0.out.1.belowW h2, owns_below H0.out.2.1 h2, below_tr H0.out.2.2 h2⟩
  have hbx2 : Box4 w2 w.heap.size (.int .i64 a.kind) (.int .i64 a.n) (.string a.s) (.slice TA (flen l) cap) := Box4.below ⟨x0, x1, x2, x3, x4⟩ h2
  have hz1 := (h2.cell (p := ⟨w.heap.size + 1, 1, none⟩) (by simpa using hy0)).trans hy1
  have hz2 := (h2.cell (p := ⟨w.heap.size + 1, 2, none⟩) (by simpa using hy0)).trans hy2
  have hz0 : w.heap.size + 1 < w2.heap.size := Nat.lt_of_lt_of_le hy0 h2.size
  clear hyes hno h2 h2' HS0 k1 x0 x1 x2 x3 x4 e0 hy0 hy1 hy2 H0 hPlt
  obtain ⟨fs, hfs, hfi⟩ : ∃ fs : Bool, (is = true → w2.cell? ⟨wS.heap.size, i * 3, none⟩ = some (.bool fs)) ∧ fs = (F i).isSome := by
    refine ⟨(F i).isSome, fun h => ?_, rfl⟩
    have hr := H2.out.1.row i (HYN.out.1 h).1
    cases hF : F i with
    | none => rw [hF] at hr; exact hr.1
    | some p => rw [hF] at hr; exact hr.1
  have HFI : Hid (fs = (F i).isSome) := hfi
  have HFS : Hid (is = true → w2.cell? ⟨wS.heap.size, i * 3, none⟩ = some (.bool fs)) := hfs
  have hp1 := H2.out.1.p1
  clear hfi hfs
  go_upto_region 2 with fail
  go_cut [33] (fun pv wx => pv = .bool (is && !fs) ∧ wx = w2)
  case first =>
    cases is
    · go_wp2_with fail
      go_meet
      exact ⟨rfl, rfl⟩
    · have hfs' := HFS.out rfl
      have hi1 : (i : Int) < (M.length : Int) := by have := (HYN.out.1 rfl).1; omega
      have hi0 : (0 : Int) ≤ (i : Int) := by omega
      have hpl : wS.heap.size < w2.heap.size := by omega
      go_wp2_with fail
      go_meet
      exact ⟨by simp, rfl⟩
  case rest =>
    obtain ⟨rfl, hwc⟩ := hcut
    subst hwc
    go_upto_if 33 with fail
    go_cut [0] (fun pv wx => pv = .pointer (some ⟨wS.heap.size + 1, 0, none⟩) ∧ ∃ F1, LMid wS w VW M us F A num os (.slice OA os.length oc) a l TA cap F1 wx)
    case first =>
      cases hb : (is && !fs)
      · have HB : Hid ((is && !fs) = false) := hb
        clear hb
        go_wp2_with fail
        go_meet
        refine ⟨rfl, F, H2.out.1, fun i p h => h, fun j hj e hn => ?_, LGr.of H2.out.2.2, H2.out.2.1, hbx2, hz0, hz1, hz2⟩
        have h0 : ordT (M.getD j kd0).a (M.getD j kd0).l a l = 0 := nm_iff.1 e
        have hbb := HB.out
        cases is with
        | false => exact HYN.out.2 rfl j hj h0
        | true =>
          obtain ⟨hi, ho⟩ := HYN.out.1 rfl
          have hji : j = i := rises_one HST.out.rises hj hi (e.trans (nm_iff.2 ho).symm)
          subst hji
          have hf := HFI.out
          rw [hn] at hf
          rw [hf] at hbb
          simp at hbb
      · obtain ⟨rfl, rfl⟩ : is = true ∧ fs = false := by
          revert hb
          cases is <;> cases fs <;> intro hb <;> first | exact ⟨rfl, rfl⟩ | cases hb
        obtain ⟨hi, ho⟩ := HYN.out.1 rfl
        have hFi : F i = none := by
          have := HFI.out
          cases hF : F i with
          | none => rfl
          | some p => rw [hF] at this; cases this
        have HR0 : Hid (i < M.length ∧ F i = none ∧ ordT (M.getD i kd0).a (M.getD i kd0).l a l = 0) := ⟨hi, hFi, ho⟩
        have HCELL : Hid (∀ W, Below wc.heap.size wc W → (W.cell? ⟨wS.heap.size, i * 3, none⟩ = some (.bool false) ∧ W.cell? ⟨wS.heap.size, i * 3 + 1, none⟩ = some (.int .i64 0) ∧ W.cell? ⟨wS.heap.size, i * 3 + 2, none⟩ = some (.slice none 0 0)) ∧ (W.frozen? ⟨wS.heap.size, i * 3, none⟩ = false ∧ W.frozen? ⟨wS.heap.size, i * 3 + 1, none⟩ = false ∧ W.frozen? ⟨wS.heap.size, i * 3 + 2, none⟩ = false)) := fun W hW => by
          have h1 := H2.out.1.belowW hW
          have h2 := h1.row i hi
          rw [hFi] at h2
          exact ⟨h2, h1.fz _, h1.fz _, h1.fz _⟩
        have kC : ∀ W, Below wc.heap.size wc W → Calls Tryz.prog 42 #[.slice OA os.length oc] W fun e w' => ∃ v', e = .returned v' ∧ w'.ownsRow W.heap.size 3 1 v' os.length (intC os) ∧ Below W.heap.size W w' := fun W hW => clone_any (owns_below H2.out.2.1 hW) (by omega)
        have hi1 : (i : Int) < (M.length : Int) := by omega
        have hi0 : (0 : Int) ≤ (i : Int) := by omega
        have hpl : wS.heap.size + 1 < wc.heap.size := by omega
        have HSB : Hid (∀ W, Below wc.heap.size wc W → W.cell? ⟨wS.heap.size + 1, 1, none⟩ = some (.slice (some ⟨wS.heap.size, 0, none⟩) M.length M.length) ∧ W.cell? ⟨w.heap.size + 1, 1, none⟩ = some (.int .i64 (num : Int)) ∧ W.cell? ⟨w.heap.size + 1, 2, none⟩ = some (.slice OA os.length oc)) := fun W hW =>
          ⟨(hW.cell (p := ⟨wS.heap.size + 1, 1, none⟩) hpl).trans hp1, (hW.cell (p := ⟨w.heap.size + 1, 1, none⟩) (by simpa using hz0)).trans hz1, (hW.cell (p := ⟨w.heap.size + 1, 2, none⟩) (by simpa using hz0)).trans hz2⟩
        have HSS : Hid (∀ (W : World) (u0 u1 u2 : Value), (W.cell? ⟨wS.heap.size + 1, 1, none⟩ = some (.slice (some ⟨wS.heap.size, 0, none⟩) M.length M.length) ∧ W.cell? ⟨w.heap.size + 1, 1, none⟩ = some (.int .i64 (num : Int)) ∧ W.cell? ⟨w.heap.size + 1, 2, none⟩ = some (.slice OA os.length oc)) → ((((W.setCell ⟨wS.heap.size, i * 3, none⟩ u0).setCell ⟨wS.heap.size, i * 3 + 1, none⟩ u1).setCell ⟨wS.heap.size, i * 3 + 2, none⟩ u2).cell? ⟨wS.heap.size + 1, 1, none⟩ = some (.slice (some ⟨wS.heap.size, 0, none⟩) M.length M.length) ∧ (((W.setCell ⟨wS.heap.size, i * 3, none⟩ u0).setCell ⟨wS.heap.size, i * 3 + 1, none⟩ u1).setCell ⟨wS.heap.size, i * 3 + 2, none⟩ u2).cell? ⟨w.heap.size + 1, 1, none⟩ = some (.int .i64 (num : Int)) ∧ (((W.setCell ⟨wS.heap.size, i * 3, none⟩ u0).setCell ⟨wS.heap.size, i * 3 + 1, none⟩ u1).setCell ⟨wS.heap.size, i * 3 + 2, none⟩ u2).cell? ⟨w.heap.size + 1, 2, none⟩ = some (.slice OA os.length oc))) := fun W u0 u1 u2 h => by
          have hfar : ∀ q j, q ≠ wS.heap.size → (((W.setCell ⟨wS.heap.size, i * 3, none⟩ u0).setCell ⟨wS.heap.size, i * 3 + 1, none⟩ u1).setCell ⟨wS.heap.size, i * 3 + 2, none⟩ u2).cell? ⟨q, j, none⟩ = W.cell? ⟨q, j, none⟩ := fun q j hq => World.cell?_of_block (a := ⟨q, j, none⟩) (by
            show (((W.setCell ⟨wS.heap.size, i * 3, none⟩ u0).setCell ⟨wS.heap.size, i * 3 + 1, none⟩ u1).setCell ⟨wS.heap.size, i * 3 + 2, none⟩ u2).heap[q]? = _
            rw [Below.heap_setCell _ _ _ _ hq, Below.heap_setCell _ _ _ _ hq, Below.heap_setCell _ _ _ _ hq])
          exact ⟨(hfar _ _ (by omega)).trans h.1, (hfar _ _ (by omega)).trans h.2.1, (hfar _ _ (by omega)).trans h.2.2⟩
        have hzz1 := hz1
        have hzz2 := hz2
        clear hi ho hFi hz1 hz2 hp1
        go_wp2_with fail
        go_region_held3 (fun W => W.cell? ⟨wS.heap.size + 1, 1, none⟩ = some (.slice (some ⟨wS.heap.size, 0, none⟩) M.length M.length) ∧ W.cell? ⟨w.heap.size + 1, 1, none⟩ = some (.int .i64 (num : Int)) ∧ W.cell? ⟨w.heap.size + 1, 2, none⟩ = some (.slice OA os.length oc))
          (first | assumption | exact HSB.out _ (Below.drew (Below.refl _ _)) | exact HSB.out _ b4 | exact HSS.out _ _ _ _ (HSB.out _ b4))
          ((go_at_call 42; refine (kC _ (Below.drew (Below.refl _ _))).mono ?_; rintro e w4 ⟨v', rfl, ho4, b4'⟩; have b4 : Below wc.heap.size wc w4 := Below.trans (Below.drew (Below.refl _ _)) b4'; obtain ⟨VA, vc, rfl⟩ := owns_val ho4; obtain ⟨⟨c0, c1, c2⟩, f0, f1, f2⟩ := HCELL.out _ b4))
        have hwz : w.heap.size + 1 < wc.heap.size := hz0
        have hM := mid_store HST.out.rises (H2.out.1.belowW b4) (owns_below H2.out.2.1 b4) (below_tr H2.out.2.2 b4) hS (hbx2.below b4) (Nat.lt_of_lt_of_le hz0 b4.size) ((b4.cell (p := ⟨w.heap.size + 1, 1, none⟩) (by simpa using hz0)).trans hzz1) ((b4.cell (p := ⟨w.heap.size + 1, 2, none⟩) (by simpa using hz0)).trans hzz2) HR0.out.1 HR0.out.2.1 HR0.out.2.2 HPT.out (intV_of (lo := wS.heap.size + 2) (A := A) ho4 (by show wS.heap.size + 2 ≤ wc.heap.size; omega) (fun q hq hA => by have := HAO.out.2 q hA; have hq' : wc.heap.size ≤ q := hq; omega))
        have HM : Hid (LMid wS w VW M us F A num os (.slice OA os.length oc) a l TA cap _ _) := hM
        clear hM c0 c1 c2 f0 f1 f2 ho4 b4 b4' HSB HSS HCELL kC
        go_wp2_with fail
        go_meet
        exact ⟨rfl, _, HM.out⟩
    case rest =>
      obtain ⟨rfl, F0, hm⟩ := hcut
      have HM0 : Hid (LMid wS w VW M us F A num os (.slice OA os.length oc) a l TA cap F0 wc) := hm
      clear hm H2 hbx2 hz0 hz1 hz2 HYN HFS HFI hp1
      obtain ⟨i7, hi7, hz70, hz71, hz72⟩ := info_get Tryz.infoInt7
      go_wp2_with fail
      go_loopw [8] (fun iv wr => LkRel wS w VW M us F A num os (.slice OA os.length oc) a l TA cap iv wr) (fun iv _ => 11 - (intOf iv).toNat)
      case atStart => exact ⟨1, F0, rfl, by omega, by omega, HM0.out, fun k h1 h2 => by omega⟩
      case round =>
        obtain ⟨i1, F1, rfl, hi1, hi2, hm, hcv⟩ := hrel
        have HM1 : Hid (LMid wS w VW M us F A num os (.slice OA os.length oc) a l TA cap F1 wr) := hm
        have HCV : Hid (∀ k : Nat, 3 ≤ k → k < i1 → k ≤ 5 → ∀ u, opK (k : Int) (a, l) = .ok u → CovT (HitAll M F1) u) := hcv
        clear hm hcv HM0
        by_cases hle : i1 ≤ 10
        · have hle' : (i1 : Int) ≤ 10 := by omega
          have kr := ruleOf_any (mvI i1) wr
          by_cases h3 : i1 = 3 ∨ i1 = 4 ∨ i1 = 5
          · have k2 := rule_o i1 h3
            have kA : ∀ W, Below wS.heap.size wS W → Calls Tryz.prog 44 #[opV i1, .slice (some ⟨W.heap.size, 0, none⟩) 1 1] (W.alloc (.cells #[.int .i64 a.kind, .int .i64 a.n, .string a.s, .slice TA (flen l) cap] 27)) (ApEnd wS W B i1 ⟨0, 0, a, l, TA, cap, b, o⟩) := fun W hW => apply_open i1 h3 ⟨0, 0, a, l, TA, cap, b, o⟩ HK.out hB hW ma
            have HI3 : Hid (i1 = 3 ∨ i1 = 4 ∨ i1 = 5) := h3
            clear h3
            change ∀ W : World, (Instr.typeAssert (ruleV (mvI i1)) _ _ _).run _ W = _ at k2
            generalize ruleV (mvI i1) = r at *
            obtain ⟨kk, kq, hV⟩ : ∃ kk kq : Int, opV i1 = .agg #[.int .i64 kk, .int .i64 kq] := ⟨_, _, rfl⟩
            rw [hV] at k2
            simp only [hV] at kA
            clear hV
            go_wp2_with fail
            refine kr.mono ?_
            rintro e w1 ⟨rfl, b1⟩
            have HM2 : Hid (LMid wS w VW M us F A num os (.slice OA os.length oc) a l TA cap F1 w1) := HM1.out.below b1
            obtain ⟨x0, x1, x2, x3, x4⟩ := HM2.out.bx
            have s1 := b1.size
            have hbS1 : Below wS.heap.size wS w1 := HM2.out.p.below
            have hsS1 := HM2.out.p.size
            have b1a : Below w1.heap.size w1 (w1.alloc (.cells #[.int .i64 kk, .int .i64 kq] 76)) := Below.alloc (Below.refl _ _) (Nat.le_refl _) _
            clear b1 HM1
            have kA1 : Calls Tryz.prog 44 #[.agg #[.int .i64 kk, .int .i64 kq], .slice (some ⟨w1.heap.size + 1, 0, none⟩) 1 1] ((w1.alloc (.cells #[.int .i64 kk, .int .i64 kq] 76)).alloc (.cells #[.int .i64 a.kind, .int .i64 a.n, .string a.s, .slice TA (flen l) cap] 27)) (ApEnd wS (w1.alloc (.cells #[.int .i64 kk, .int .i64 kq] 76)) B i1 ⟨0, 0, a, l, TA, cap, b, o⟩) := by
              have h := kA (w1.alloc (.cells #[.int .i64 kk, .int .i64 kq] 76)) (hbS1.trans (b1a.mono (by omega)))
              rw [World.heap_size_alloc'] at h
              exact h
            go_wp2_with fail
            refine kA1.mono ?_
            rintro e w2 ⟨hb2, ⟨z, ho, rfl⟩ | ⟨j, ho, rfl, hj⟩⟩
            · have b2 : Below w1.heap.size w1 w2 := below_tr (b1a.alloc (by simp) _) hb2
              have s2 := b2.size
              have HO : Hid (opK (i1 : Int) (a, l) = .error z) := ho
              clear ho hb2
              go_wp2_with fail
              go_roundw
              case rel =>
                refine ⟨i1 + 1, F1, by go_num, by omega, by omega, HM2.out.below (by first | exact Below.alloc b2 s2 _ | exact b2), fun k h1 h2 h4 u hu => ?_⟩
                rcases Nat.lt_or_ge k i1 with h5 | h5
                · exact HCV.out k h1 h5 h4 u hu
                · obtain rfl : k = i1 := by omega
                  rw [HO.out] at hu; cases hu
              case measure => simp [intOf]; omega
            · have b2 : Below w1.heap.size w1 w2 := below_tr (b1a.alloc (by simp) _) hb2
              have s2 := b2.size
              have HO : Hid (opK (i1 : Int) (a, l) = .ok j.t) := ho
              have HREC : Hid (∀ (w5 : World) (v5 : Value), PSt wS w5 VW M us F1 (fun q => A q ∨ v5.ownBlock = some q) (.slice none 0 0) → w5.ownsRow (wS.heap.size + 2) 3 1 v5 (os.length + 1) (intC os ++ [.int .i64 (i1 : Int)]) → (∀ q, v5.ownBlock = some q → A q ∨ v5.ownBlock = some q) → (∀ q, A q ∨ v5.ownBlock = some q → q < w5.heap.size) →
                  Calls Tryz.prog 21 #[.pointer (some ⟨wS.heap.size + 1, 0, none⟩), j.val, .agg #[.bool false, .int .i64 (num : Int), v5]] w5 (LookEnd wS w5 VW M us F1 (fun q => A q ∨ v5.ownBlock = some q) v5 (os ++ [(i1 : Int)]) (j.a, j.l))) := fun w5 v5 hp5 hown5 h1 h2 =>
                allF_mem l HIH.out j.t (opK_in ho) wS w5 VW M us F1 _ j.val B num (os ++ [(i1 : Int)]) v5 false s HST.out hp5 ⟨hj.1, j.A, j.cap, j.b, j.o, rfl, hj.2.1, hj.2.2.1, RepG.toF (fun _ h => h) hj.2.2.2⟩ hB (kid_may (t := (a, l)) ma (opK_in ho)) HGO.out.1 HGO.out.2.1 (goT_snoc _ _ _ _ _ HGO.out.2.2.1 ho) (fun k hk => by
                    rcases List.mem_append.1 hk with hk | hk
                    · exact HGO.out.2.2.2.1 k hk
                    · simp only [List.mem_singleton] at hk; rw [hk]; have := HI3.out; omega) (by
                    have := HGO.out.2.2.2.2.kid (u := j.t) (opK_in ho)
                    simpa using this) (by
                    rw [List.length_append, List.length_singleton, show intC (os ++ [(i1 : Int)]) = intC os ++ [.int .i64 (i1 : Int)] by simp [intC]]
                    exact hown5) h1 h2
              have hbx3 := Box4.new w2 (.int .i64 j.a.kind) (.int .i64 j.a.n) (.string j.a.s) (.slice j.A (flen j.l) j.cap) 27
              have HM3 : Hid (LMid wS w VW M us F A num os (.slice OA os.length oc) a l TA cap F1 (w2.alloc (.cells #[.int .i64 j.a.kind, .int .i64 j.a.n, .string j.a.s, .slice j.A (flen j.l) j.cap] 27))) := HM2.out.below (Below.alloc b2 s2 _)
              have hys1 := HM2.out.ys
              clear ho hb2 hj x0 x1 x2 x3 x4 HM2 kA kA1 k2
              go_wp2_with fail
              generalize w2.alloc (.cells #[.int .i64 j.a.kind, .int .i64 j.a.n, .string j.a.s, .slice j.A (flen j.l) j.cap] 27) = w3 at *
              have HB3 : Hid (Box4 w3 w2.heap.size (.int .i64 j.a.kind) (.int .i64 j.a.n) (.string j.a.s) (.slice j.A (flen j.l) j.cap)) := hbx3
              have hy3 := HM3.out.ys
              have hg3 := HM3.out.gr.size
              have hwl : w.heap.size + 1 < w2.heap.size := by omega
              have HSX : Hid (∀ W : World, (∀ q, w.heap.size ≤ q → q < w3.heap.size → W.heap[q]? = w3.heap[q]?) → W.cell? ⟨w2.heap.size, 0, none⟩ = some (.int .i64 j.a.kind) ∧ W.cell? ⟨w2.heap.size, 1, none⟩ = some (.int .i64 j.a.n) ∧ W.cell? ⟨w2.heap.size, 2, none⟩ = some (.string j.a.s) ∧ W.cell? ⟨w2.heap.size, 3, none⟩ = some (.slice j.A (flen j.l) j.cap) ∧ W.cell? ⟨w.heap.size + 1, 1, none⟩ = some (.int .i64 (num : Int)) ∧ W.cell? ⟨w.heap.size + 1, 2, none⟩ = some (.slice OA os.length oc)) := fun W hW => by
                obtain ⟨x0, x1, x2, x3, x4⟩ := HB3.out
                have c : ∀ q z, w.heap.size ≤ q → q < w3.heap.size → W.cell? ⟨q, z, none⟩ = w3.cell? ⟨q, z, none⟩ := fun q z h1 h2 => World.cell?_of_block (a := ⟨q, z, none⟩) (hW q h1 h2)
                exact ⟨(c _ _ (by omega) x0).trans x1, (c _ _ (by omega) x0).trans x2, (c _ _ (by omega) x0).trans x3, (c _ _ (by omega) x0).trans x4, (c _ _ (by omega) hy3).trans HM3.out.y1, (c _ _ (by omega) hy3).trans HM3.out.y2⟩
              have HOB : Hid (∀ q, (Value.slice OA os.length oc).ownBlock = some q → q < w.heap.size) := fun q e => HAO.out.2 q (HAO.out.1 q e)
              clear hbx3
              go_region_held3 (fun W => W.cell? ⟨w2.heap.size, 0, none⟩ = some (.int .i64 j.a.kind) ∧ W.cell? ⟨w2.heap.size, 1, none⟩ = some (.int .i64 j.a.n) ∧ W.cell? ⟨w2.heap.size, 2, none⟩ = some (.string j.a.s) ∧ W.cell? ⟨w2.heap.size, 3, none⟩ = some (.slice j.A (flen j.l) j.cap) ∧ W.cell? ⟨w.heap.size + 1, 1, none⟩ = some (.int .i64 (num : Int)) ∧ W.cell? ⟨w.heap.size + 1, 2, none⟩ = some (.slice OA os.length oc))
                (first | assumption | exact HSX.out _ (fun q _ _ => rfl) | exact HSX.out _ (fun q _ h => Below.heap_alloc _ _ _ h))
                (first
                  | (refine step_append_cap _ (by rfl) _ _ 22 (by rfl) (wS.heap.size + 2) 3 i7 (.int .i64 0) 1 8 Tryz.underlying22 hi7 hz70 hz71 hz72 rfl (by decide) (.slice OA os.length oc) os.length (intC os) (by rfl) ?_ ⟨w3.heap.size, 0, none⟩ 1 1 [.int .i64 (i1 : Int)] (by rfl) (by rfl) ?_ ?_ ?_ ?_ ?_ ?_; exact (World.ownsRow.drew HM3.out.own).alloc _; exact World.news_of_block (t := 3) (fr := (0, 0)) (heap_alloc_new w3.drew _); (intro u hu; simp only [List.mem_singleton] at hu; subst hu; rfl); (unfold maxLen; omega); omega; (simp; omega); intro v5 w5 hown5 hgrow5 hat5 hcap5; obtain ⟨V5, c5, rfl⟩ := owns_val hown5; have N5 := LMid.next HM3.out HAO.out.1 HAO.out.2 hS hown5 hgrow5 hat5 hcap5; have S5 := HSX.out w5 (fun q h1 h2 => N5.2.2.2.1 q h2 (fun e => by have := HOB.out q e; omega)))
                  | (go_at_call 21; refine (HREC.out _ _ N5.1 hown5 N5.2.1 N5.2.2.1).mono ?_; rintro e w6 ⟨rfl, F2, hp6, hle6, hcov6, hgr6, hown6⟩; have hs5 := N5.2.2.2.2.2.1; have S6 := HSX.out w6 (fun q h1 h2 => (hgr6.block q (by omega) (by omega) (fun e => by rcases N5.2.2.2.2.1 q e with h | h <;> omega)).trans (N5.2.2.2.1 q h2 (fun e => by have := HOB.out q e; omega)))))
              have hM6 := N5.2.2.2.2.2.2 F2 w6 hp6 hle6 hgr6 (by
                have h := hown6
                rw [List.length_append, List.length_singleton, show intC (os ++ [(i1 : Int)]) = intC os ++ [.int .i64 (i1 : Int)] by simp [intC]] at h
                exact h)
              have HM6 : Hid (LMid wS w VW M us F A num os (.slice OA os.length oc) a l TA cap F2 w6 ∧ Le F1 F2 ∧ CovT (HitAll M F2) (j.a, j.l)) := ⟨hM6, hle6, hcov6⟩
              clear hM6 hle6 hcov6 hp6 hgr6 hown6 S6 S5 N5 hown5 hgrow5 hat5 hcap5 HSX HREC HB3 HM3
              go_wp2_with fail
              go_roundw
              case rel =>
                refine ⟨i1 + 1, F2, by go_num, by omega, by omega, HM6.out.1, fun k h1 h2 h4 u hu => ?_⟩
                rcases Nat.lt_or_ge k i1 with h5 | h5
                · exact CovT.mono (HitAll.mono HM6.out.2.1) (HCV.out k h1 h5 h4 u hu)
                · obtain rfl : k = i1 := by omega
                  rw [HO.out] at hu
                  injection hu with hu
                  rw [← hu]; exact HM6.out.2.2
              case measure => simp [intOf]; omega
          · have k2 := rule_noo i1 hi1 hle h3
            have H3 : Hid (¬ (i1 = 3 ∨ i1 = 4 ∨ i1 = 5)) := h3
            clear h3
            change ∀ W : World, (Instr.typeAssert (ruleV (mvI i1)) _ _ _).run _ W = _ at k2
            generalize ruleV (mvI i1) = r at *
            go_wp2_with fail
            refine kr.mono ?_
            rintro e w1 ⟨rfl, b1⟩
            have s1 := b1.size
            go_wp2_with fail
            go_roundw
            case rel =>
              refine ⟨i1 + 1, F1, by go_num, by omega, by omega, HM1.out.below (Below.alloc b1 s1 _), fun k h1 h2 h4 => ?_⟩
              have h3 := H3.out
              exact HCV.out k h1 (by omega) h4
            case measure => simp [intOf]; omega
        · obtain rfl : i1 = 11 := by omega
          have HE : Hid (LookEnd wS w VW M us F A (.slice OA os.length oc) os (a, l) (.returned (.tuple #[])) wr) := ⟨rfl, F1, HM1.out.p, HM1.out.le, cov_of ma HM1.out.hit (fun k h1 h2 => HCV.out k h1 (by omega) h2), HM1.out.gr, HM1.out.own⟩
          go_wp2_with fail
          refine bodyPost_ret (v := .tuple #[]) (by simp [results, Tryz.results21]) rfl ?_
          exact HE.out

theorem look_all : ∀ f : Fo, AllF LookOk f
  | .nil => trivial
  | .node _ _ a l r => ⟨look_step a l (look_all l), look_all r⟩
theorem look_any (a : Nd) (l : Fo) : LookOk a l := look_step a l (look_all l)

end Go.Proofs.YtanpplgmdemlaaaGreatDoor
