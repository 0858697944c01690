import Derived.Test.YtldpnhlifgkmiaaDoorW15
import Derived.Deep.RegionHeld3
import Derived.Lib.SliceRun
namespace Go.Proofs.YtldpnhlifgkmiaaDoor
open Go.RowKit
set_option linter.unusedVariables false
set_option linter.unusedSimpArgs false

theorem RepG.alloc2 {w : World} {S : Nat → Prop} {B : Nat} {f : Fo} {b o : Nat} (hr : RepG w S f b o) (hS : ∀ b, S b → b < B) (hB : B ≤ w.heap.size) (x y : Obj) : RepF ((w.alloc x).alloc y) B f b o :=
  RepF.keep (w := w) (Nat.le_refl _) (fun b' o' hb' => by rw [World.cell?_alloc_past _ _ _ (by simp; omega), World.cell?_alloc_past _ _ _ (by omega)]) (RepG.toF hS hr)

set_option maxHeartbeats 1000000 in
theorem eqK_any (j k : Kd) (g : Nat) (w : World) (hj : j.Ok w (fun b => b < w.heap.size ∧ b ≠ g) ∧ j.Ar) (hk : k.Ok w (fun b => b < w.heap.size ∧ b ≠ g) ∧ k.Ar) :
    Calls Tryd.prog 47 #[.agg #[.int .i64 j.a.kind, .int .i64 j.a.n, .string j.a.s, .slice j.A (flen j.l) j.cap], .agg #[.int .i64 k.a.kind, .int .i64 k.a.n, .string k.a.s, .slice k.A (flen k.l) k.cap]] w fun e w' =>
      e = .returned (.bool (ordK j k == 0)) ∧ Below w.heap.size w w' := by
  have Hj : Hid (j.Ok w (fun b => b < w.heap.size ∧ b ≠ g) ∧ j.Ar) := hj
  have Hk : Hid (k.Ok w (fun b => b < w.heap.size ∧ b ≠ g) ∧ k.Ar) := hk
  clear hj hk
  go_enter Tryd.func47, Tryd.ntmps47
  go_wp2_with fail
  have hj := Hj.out
  have hk := Hk.out
  refine (ord_any j.a j.l _ _ k.a k.l w.heap.size _ ⟨hj.1.1, _, _, _, _, rfl, hj.1.2.1, hj.1.2.2.1, RepG.alloc2 hj.1.2.2.2 (fun _ h => h.1) (Nat.le_refl _) _ _⟩ ⟨hk.1.1, _, _, _, _, rfl, hk.1.2.1, hk.1.2.2.1, RepG.alloc2 hk.1.2.2.2 (fun _ h => h.1) (Nat.le_refl _) _ _⟩ (by simp; omega) hj.2.1 hk.2.1 hj.2.2 hk.2.2).mono ?_
  clear hj hk
  rintro e w1 ⟨rfl, ho⟩
  go_wp2_with fail
  go_ret
  exact ⟨rfl, Below.trans (by repeat (first | exact Below.refl _ _ | assumption | refine below_drewN ?_ _ | refine Below.drew ?_ | refine Below.alloc ?_ (by simp <;> omega) _ | refine Below.setCell ?_ (by simp <;> omega) _)) (ho.mono (by simp; omega))⟩

theorem okDrew {w : World} {g : Nat} {k : Kd} (h : k.Ok w (fun b => b < w.heap.size ∧ b ≠ g) ∧ k.Ar) : k.Ok w.drew (fun b => b < w.drew.heap.size ∧ b ≠ g) ∧ k.Ar :=
  ⟨Kd.Ok.keep (w := w) (w' := w.drew) (fun _ h => h) (fun _ _ _ => rfl) h.1, h.2⟩

def kd0 : Kd := ⟨0, 0, ⟨0, 0, ByteArray.empty⟩, .nil, none, 0, 0, 0⟩
/-- Is the term of number m kept? -/
def keepK (ks : List Kd) (m : Nat) : Bool := m == 0 || ordK (ks.getD m kd0) (ks.getD (m - 1) kd0) != 0
/-- Those of the first m that are kept. -/
def keptTo (ks : List Kd) : Nat → List Kd
  | 0 => []
  | m + 1 => keptTo ks m ++ (if keepK ks m then [ks.getD m kd0] else [])

theorem keptTo_all (ks : List Kd) : ∀ m, m ≤ ks.length → (∀ i, i < m → keepK ks i = true) → keptTo ks m = ks.take m
  | 0, _, _ => rfl
  | m + 1, h, hk => by
    rw [keptTo, keptTo_all ks m (by omega) (fun i hi => hk i (by omega)), if_pos (hk m (by omega)), List.take_succ_eq_append_getElem (by omega)]
    simp [List.getD, List.getElem?_eq_getElem (show m < ks.length by omega)]

theorem keptTo_le (ks : List Kd) : ∀ m, (keptTo ks m).length ≤ m
  | 0 => Nat.le_refl _
  | m + 1 => by have := keptTo_le ks m; rw [keptTo, List.length_append]; split <;> simp <;> omega

theorem keptTo_mem (ks : List Kd) : ∀ m, m ≤ ks.length → ∀ k ∈ keptTo ks m, k ∈ ks
  | 0, _, k, h => by simp [keptTo] at h
  | m + 1, hm, k, h => by
    rw [keptTo] at h
    rcases List.mem_append.1 h with h | h
    · exact keptTo_mem ks m (by omega) k h
    · split at h
      · simp at h; rw [h, List.getElem?_eq_getElem (show m < ks.length by omega)]; simp
      · simp at h

/-- The cells of one term of a row. -/
theorem RowAt.at {w : World} {g : Nat} {ks : List Kd} (h : RowAt w g ks) (m : Nat) (hm : m < ks.length) :
    w.cell? ⟨g, m * 4, none⟩ = some (.int .i64 (ks.getD m kd0).a.kind) ∧ w.cell? ⟨g, m * 4 + 1, none⟩ = some (.int .i64 (ks.getD m kd0).a.n) ∧ w.cell? ⟨g, m * 4 + 2, none⟩ = some (.string (ks.getD m kd0).a.s) ∧
      w.cell? ⟨g, m * 4 + 3, none⟩ = some (.slice (ks.getD m kd0).A (flen (ks.getD m kd0).l) (ks.getD m kd0).cap) := by
  have c : ∀ j, j < 4 → w.cell? ⟨g, m * 4 + j, none⟩ = (ks.getD m kd0).cells[j]? := fun j hj => by
    rw [(h.2.1 (m * 4 + j) (by omega)).1, rowOf_get, show (m * 4 + j) / 4 = m from by omega, show (m * 4 + j) % 4 = j from by omega]
    simp [List.getD, List.getElem?_eq_getElem hm]
  exact ⟨c 0 (by omega), c 1 (by omega), c 2 (by omega), c 3 (by omega)⟩

theorem RowAt.ok {w : World} {g : Nat} {ks : List Kd} (h : RowAt w g ks) (m : Nat) (hm : m < ks.length) : (ks.getD m kd0).Ok w (fun b => b < w.heap.size ∧ b ≠ g) ∧ (ks.getD m kd0).Ar :=
  h.2.2 _ (by simp [List.getD, List.getElem?_eq_getElem hm])

theorem RowAt.below {w w' : World} {g : Nat} {ks : List Kd} (h : RowAt w g ks) (hb : Below w.heap.size w w') : RowAt w' g ks := by
  obtain ⟨h1, h2, h3⟩ := h
  refine ⟨Nat.lt_of_lt_of_le h1 hb.size, fun j hj => ⟨by rw [hb.cell h1]; exact (h2 j hj).1, by rw [hb.frozen h1]; exact (h2 j hj).2⟩, fun k hk => ⟨(h3 k hk).1.keep (fun b hb' => ⟨Nat.lt_of_lt_of_le hb'.1 hb.size, hb'.2⟩) (fun b o hb' => hb.cell hb'.1), (h3 k hk).2⟩⟩

/-- What is kept of the first P, and behind it the row as it was. -/
def mixK (ks : List Kd) (P : Nat) : List Kd := keptTo ks P ++ ks.drop (keptTo ks P).length

theorem mixK_length (ks : List Kd) (P : Nat) (h : P ≤ ks.length) : (mixK ks P).length = ks.length := by
  have := keptTo_le ks P
  rw [mixK, List.length_append, List.length_drop]; omega

theorem mixK_get (ks : List Kd) (P i : Nat) (h : (keptTo ks P).length ≤ i) : (mixK ks P).getD i kd0 = ks.getD i kd0 := by
  rw [mixK, List.getD_eq_getElem?_getD, List.getD_eq_getElem?_getD, List.getElem?_append_right h, List.getElem?_drop, show (keptTo ks P).length + (i - (keptTo ks P).length) = i from by omega]

theorem mixK_same (ks : List Kd) (P : Nat) (h : keepK ks P = false) : keptTo ks (P + 1) = keptTo ks P := by rw [keptTo, h]; simp

theorem mixK_next (ks : List Kd) (P : Nat) (h : keepK ks P = true) (hP : P < ks.length) (hk : (keptTo ks P).length < ks.length) :
    ∃ z B, mixK ks P = keptTo ks P ++ z :: B ∧ mixK ks (P + 1) = keptTo ks P ++ ks.getD P kd0 :: B := by
  refine ⟨ks[(keptTo ks P).length], ks.drop ((keptTo ks P).length + 1), ?_, ?_⟩
  · rw [mixK, List.drop_eq_getElem_cons hk]
  · rw [mixK, keptTo, h, if_pos rfl, List.length_append, List.append_assoc]; rfl

theorem cell_set4_in (w : World) (g o : Nat) (u0 u1 u2 u3 : Value) (h0 : (w.cell? ⟨g, o, none⟩).isSome = true) (h1 : (w.cell? ⟨g, o + 1, none⟩).isSome = true) (h2 : (w.cell? ⟨g, o + 2, none⟩).isSome = true) (h3 : (w.cell? ⟨g, o + 3, none⟩).isSome = true) (t : Nat) :
    ((((w.setCell ⟨g, o, none⟩ u0).setCell ⟨g, o + 1, none⟩ u1).setCell ⟨g, o + 2, none⟩ u2).setCell ⟨g, o + 3, none⟩ u3).cell? ⟨g, t, none⟩ = if t = o then some u0 else if t = o + 1 then some u1 else if t = o + 2 then some u2 else if t = o + 3 then some u3 else w.cell? ⟨g, t, none⟩ := by
  have so : ∀ (W : World) (a b : Nat) (v : Value), a ≠ b → (W.setCell ⟨g, a, none⟩ v).cell? ⟨g, b, none⟩ = W.cell? ⟨g, b, none⟩ := fun W a b v h => by
    rw [World.cell?_setCell_other]; intro e; injection e with e1 e2; exact h e2
  by_cases a3 : t = o + 3
  · subst a3
    rw [if_neg (by omega), if_neg (by omega), if_neg (by omega), if_pos rfl]
    refine World.cell?_setCell_same' _ _ _ ?_
    rw [so _ _ _ _ (by omega), so _ _ _ _ (by omega), so _ _ _ _ (by omega)]; exact h3
  · rw [so _ _ _ _ (Ne.symm a3)]
    by_cases a2 : t = o + 2
    · subst a2
      rw [if_neg (by omega), if_neg (by omega), if_pos rfl]
      refine World.cell?_setCell_same' _ _ _ ?_
      rw [so _ _ _ _ (by omega), so _ _ _ _ (by omega)]; exact h2
    · rw [so _ _ _ _ (Ne.symm a2)]
      by_cases a1 : t = o + 1
      · subst a1
        rw [if_neg (by omega), if_pos rfl]
        refine World.cell?_setCell_same' _ _ _ ?_
        rw [so _ _ _ _ (by omega)]; exact h1
      · rw [so _ _ _ _ (Ne.symm a1)]
        by_cases a0 : t = o
        · subst a0
          rw [if_pos rfl]
          exact World.cell?_setCell_same' _ _ _ h0
        · rw [so _ _ _ _ (Ne.symm a0), if_neg a0, if_neg a1, if_neg a2, if_neg a3]

theorem RowAt.put {w : World} {g : Nat} {A B : List Kd} {z x : Kd} (h : RowAt w g (A ++ z :: B)) (hx : x.Ok w (fun b => b < w.heap.size ∧ b ≠ g) ∧ x.Ar) (o : Nat) (ho : o = A.length * 4) :
    RowAt ((((w.setCell ⟨g, o, none⟩ (.int .i64 x.a.kind)).setCell ⟨g, o + 1, none⟩ (.int .i64 x.a.n)).setCell ⟨g, o + 2, none⟩ (.string x.a.s)).setCell ⟨g, o + 3, none⟩ (.slice x.A (flen x.l) x.cap)) g (A ++ x :: B) := by
  subst ho
  obtain ⟨h1, h2, h3⟩ := h
  have hs : ∀ c, c < 4 → (w.cell? ⟨g, A.length * 4 + c, none⟩).isSome = true := fun c hc => by
    rw [(h2 (A.length * 4 + c) (by simp; omega)).1, List.getElem?_eq_getElem (by rw [rowOf_length]; simp; omega)]; rfl
  have hsz : ((((w.setCell ⟨g, A.length * 4, none⟩ (.int .i64 x.a.kind)).setCell ⟨g, A.length * 4 + 1, none⟩ (.int .i64 x.a.n)).setCell ⟨g, A.length * 4 + 2, none⟩ (.string x.a.s)).setCell ⟨g, A.length * 4 + 3, none⟩ (.slice x.A (flen x.l) x.cap)).heap.size = w.heap.size := by simp [World.setCell]
  have hot : ∀ b o, b < w.heap.size ∧ b ≠ g → ((((w.setCell ⟨g, A.length * 4, none⟩ (.int .i64 x.a.kind)).setCell ⟨g, A.length * 4 + 1, none⟩ (.int .i64 x.a.n)).setCell ⟨g, A.length * 4 + 2, none⟩ (.string x.a.s)).setCell ⟨g, A.length * 4 + 3, none⟩ (.slice x.A (flen x.l) x.cap)).cell? ⟨b, o, none⟩ = w.cell? ⟨b, o, none⟩ := fun b o hb => by
    rw [World.cell?_setCell_other, World.cell?_setCell_other, World.cell?_setCell_other, World.cell?_setCell_other]
    all_goals (intro e; injection e with e1; exact hb.2 e1.symm)
  refine ⟨by rw [hsz]; exact h1, fun t ht => ⟨?_, by simpa using (h2 t (by simp at ht ⊢; omega)).2⟩, fun k hk => ?_⟩
  · rw [cell_set4_in w g (A.length * 4) _ _ _ _ (hs 0 (by omega)) (hs 1 (by omega)) (hs 2 (by omega)) (hs 3 (by omega)), (h2 t (by simp at ht ⊢; omega)).1, rowOf_get, rowOf_get]
    by_cases hb : t / 4 = A.length
    · have hm : t % 4 = 0 ∨ t % 4 = 1 ∨ t % 4 = 2 ∨ t % 4 = 3 := by omega
      rw [hb]
      rcases hm with e | e | e | e
      · rw [if_pos (by omega), e]; simp [Kd.cells]
      · rw [if_neg (by omega), if_pos (by omega), e]; simp [Kd.cells]
      · rw [if_neg (by omega), if_neg (by omega), if_pos (by omega), e]; simp [Kd.cells]
      · rw [if_neg (by omega), if_neg (by omega), if_neg (by omega), if_pos (by omega), e]; simp [Kd.cells]
    · rw [if_neg (by omega), if_neg (by omega), if_neg (by omega), if_neg (by omega)]
      congr 1
      by_cases hl : t / 4 < A.length
      · rw [List.getElem?_append_left hl, List.getElem?_append_left hl]
      · rw [List.getElem?_append_right (by omega), List.getElem?_append_right (by omega)]
        have : t / 4 - A.length = (t / 4 - A.length - 1) + 1 := by omega
        rw [this]; simp
  · have : (x.Ok w (fun b => b < w.heap.size ∧ b ≠ g) ∧ x.Ar) ∧ ∀ k ∈ A ++ z :: B, k.Ok w (fun b => b < w.heap.size ∧ b ≠ g) ∧ k.Ar := ⟨hx, h3⟩
    have hk2 : k.Ok w (fun b => b < w.heap.size ∧ b ≠ g) ∧ k.Ar := by
      simp at hk
      rcases hk with hk | rfl | hk
      · exact h3 k (by simp [hk])
      · exact hx
      · exact h3 k (by simp [hk])
    exact ⟨hk2.1.keep (fun b hb => ⟨by rw [hsz]; exact hb.1, hb.2⟩) hot, hk2.2⟩

def zero4 : List Value := [.int .i64 0, .int .i64 0, .string ⟨#[]⟩, .slice none 0 0]
def zeros4 (n : Nat) : List Value := (Builtin.zeroCells zero4.toArray n).toList

theorem zeros4_length (n : Nat) : (zeros4 n).length = n * 4 := by simp [zeros4, Builtin.zeroCells, zero4]

theorem zeros4_one (n : Nat) : ∀ v ∈ zeros4 n, v.oneCell' = true := by
  intro v hv
  simp only [zeros4, Builtin.zeroCells, Array.toList_map, List.mem_map] at hv
  obtain ⟨i, _, rfl⟩ := hv
  have h4 : i % zero4.toArray.size < 4 := Nat.mod_lt _ (by decide)
  generalize i % zero4.toArray.size = q at h4
  have : q = 0 ∨ q = 1 ∨ q = 2 ∨ q = 3 := by omega
  rcases this with rfl | rfl | rfl | rfl <;> rfl

theorem zeroValue_term (w : World) : (zeroValue 29).run Tryd.prog w = .ok (.agg zero4.toArray) w := by kernel_rfl

theorem run_clear4 (w : World) (ty : TypeId) (g o n c : Nat) (hn : 0 < n) (hc : ∀ j, j < n * 4 → (w.cell? ⟨g, o + j, none⟩).isSome = true) (hf : ∀ j, j < n * 4 → w.frozen? ⟨g, o + j, none⟩ = false) :
    (Builtin.clear_ #[24] ty #[.slice (some ⟨g, o, none⟩) n c]).run Tryd.prog w = .ok (.tuple #[]) (w.setCells g o (zeros4 n)) := by
  have hst := run_storeCells_cells (P := Tryd.prog) g o (zeros4 n) 0 w (by rw [zeros4_length]; simpa using hc) (by rw [zeros4_length]; simpa using hf) (zeros4_one n)
  simp only [Nat.add_zero] at hst
  have hz : ∀ n, (Builtin.zeroCells (Value.agg #[.int .i64 0, .int .i64 0, .string ⟨#[]⟩, .slice none 0 0]).cells n).toList = zeros4 n := fun _ => rfl
  have hzv : ∀ w, (zeroValue 29).run Tryd.prog w = .ok (.agg #[.int .i64 0, .int .i64 0, .string ⟨#[]⟩, .slice none 0 0]) w := zeroValue_term
  obtain ⟨m, rfl⟩ : ∃ m, n = m + 1 := ⟨n - 1, by omega⟩
  simp [Builtin.clear_, run_underlying Tryd.underlying24, hzv, hz, hst]

theorem heap_setCells (b : Nat) : ∀ (vs : List Value) (o : Nat) (w : World) (k : Nat), k ≠ b → (w.setCells b o vs).heap[k]? = w.heap[k]?
  | [], _, _, _, _ => rfl
  | v :: r, o, w, k, h => by rw [World.setCells, heap_setCells b r (o + 1) _ k h, Below.heap_setCell _ _ _ _ (by simpa using h)]

theorem os_setCells (b : Nat) : ∀ (vs : List Value) (o : Nat) (w : World), (w.setCells b o vs).os = w.os ∧ (w.setCells b o vs).tape = w.tape ∧ (w.setCells b o vs).output = w.output ∧ (w.setCells b o vs).heap.size = w.heap.size
  | [], _, _ => ⟨rfl, rfl, rfl, rfl⟩
  | v :: r, o, w => by
    rw [World.setCells]
    have := os_setCells b r (o + 1) (w.setCell ⟨b, o, none⟩ v)
    simpa [World.setCell] using this

theorem Only.setCells {g : Nat} {a w : World} (h : Only g a w) (o : Nat) (vs : List Value) : Only g a (w.setCells g o vs) := by
  obtain ⟨h1, h2, h3, h4⟩ := os_setCells g vs o w
  exact h.trans ⟨h1, h2, h3, by omega, fun k _ hk => heap_setCells g vs o w k hk⟩

theorem RowAt.cut {w : World} {g : Nat} {A B : List Kd} (h : RowAt w g (A ++ B)) (vs : List Value) : RowAt (w.setCells g (A.length * 4) vs) g A := by
  obtain ⟨h1, h2, h3⟩ := h
  obtain ⟨_, _, _, h4⟩ := os_setCells g vs (A.length * 4) w
  refine ⟨by omega, fun j hj => ⟨?_, ?_⟩, fun k hk => ?_⟩
  · rw [World.cell?_setCells_out _ _ _ _ _ (fun _ _ => .inl (by simp; omega)), (h2 j (by simp; omega)).1, rowOf_append, List.getElem?_append_left (by rw [rowOf_length]; omega)]
  · rw [World.frozen?_setCells]; exact (h2 j (by simp; omega)).2
  · have := h3 k (by simp [hk])
    exact ⟨this.1.keep (fun b hb => ⟨by omega, hb.2⟩) (fun b o hb => World.cell?_setCells_out _ _ _ _ _ (fun e => absurd e hb.2)), this.2⟩

set_option maxRecDepth 20000 in
set_option maxHeartbeats 4000000 in
theorem compactFunc_any (w : World) (g cap : Nat) (ks : List Kd) (h : RowAt w g ks) (hsz : ks.length ≤ 100000) (hcap : ks.length ≤ cap) :
    Calls Tryd.prog 46 #[.slice (some ⟨g, 0, none⟩) ks.length cap, .func (.func 47) #[] #[]] w fun e w' =>
      e = .returned (.slice (some ⟨g, 0, none⟩) (keptTo ks ks.length).length cap) ∧ RowAt w' g (keptTo ks ks.length) ∧ Only g w w' := by
  by_cases h2 : ks.length < 2
  · have hkt : keptTo ks ks.length = ks := by
      rw [keptTo_all ks ks.length (Nat.le_refl _) (fun i hi => by simp [keepK, show i = 0 by omega]), List.take_length]
    have Hkt : Hid (keptTo ks ks.length = ks) := hkt
    clear hkt
    go_enter Tryd.func46, Tryd.ntmps46
    go_wp2_with fail
    go_ret
    exact ⟨by rw [Hkt.out]; rfl, by rw [Hkt.out]; exact h, Only.refl _ _⟩
  · go_enter Tryd.func46, Tryd.ntmps46
    go_wp2_with fail
    go_loopw [5] (fun kv wr => ∃ j : Nat, kv = .int .i64 ((j : Int) + 1) ∧ j < ks.length ∧ (∀ i, i ≤ j → keepK ks i = true) ∧ RowAt wr g ks ∧ Below w.heap.size w wr) (fun kv _ => ks.length - (intOf kv).toNat)
    case atStart => exact ⟨0, rfl, by omega, fun i hi => by simp [keepK, show i = 0 by omega], h, Below.refl _ _⟩
    case round =>
      obtain ⟨j, rfl, hj, hkeep, hrow, hbl⟩ := hrel
      have Hkeep : Hid (∀ i, i ≤ j → keepK ks i = true) := hkeep
      clear hkeep
      by_cases hlast : j + 1 < ks.length
      · obtain ⟨e0, e1, e2, e3⟩ := hrow.at (j + 1) hlast
        obtain ⟨d0, d1, d2, d3⟩ := hrow.at j hj
        have hx := hrow.ok (j + 1) hlast
        have hy := hrow.ok j hj
        have HX : Hid (ks.getD (j + 1) kd0 = ks.getD (j + 1) kd0) := rfl
        generalize hx0 : ks.getD (j + 1) kd0 = x at *
        generalize hy0 : ks.getD j kd0 = y at *
        have Hx : Hid (ks.getD (j + 1) kd0 = x) := hx0
        have Hy : Hid (ks.getD j kd0 = y) := hy0
        clear hx0 hy0 HX
        have hg := hrow.1
        have Hrow : Hid (RowAt wr g ks) := hrow
        clear hrow
        go_wp2_with fail
        have ew : IntKind.i64.wrap (j : Int) = (j : Int) := wrap_in _ (by omega) (by omega)
        have hi0 : (0 : Int) ≤ (j : Int) + 1 := by omega
        have hi1 : (j : Int) + 1 < (ks.length : Int) := by omega
        have hi2 : (j : Int) < (ks.length : Int) := by omega
        go_region_held3 (fun w' => w'.cell? ⟨g, (j + 1) * 4, none⟩ = some (.int .i64 x.a.kind) ∧ w'.cell? ⟨g, (j + 1) * 4 + 1, none⟩ = some (.int .i64 x.a.n) ∧ w'.cell? ⟨g, (j + 1) * 4 + 2, none⟩ = some (.string x.a.s) ∧ w'.cell? ⟨g, (j + 1) * 4 + 3, none⟩ = some (.slice x.A (flen x.l) x.cap) ∧ w'.cell? ⟨g, j * 4, none⟩ = some (.int .i64 y.a.kind) ∧ w'.cell? ⟨g, j * 4 + 1, none⟩ = some (.int .i64 y.a.n) ∧ w'.cell? ⟨g, j * 4 + 2, none⟩ = some (.string y.a.s) ∧ w'.cell? ⟨g, j * 4 + 3, none⟩ = some (.slice y.A (flen y.l) y.cap))
          (first | exact ⟨e0, e1, e2, e3, d0, d1, d2, d3⟩ | (refine ⟨?_, ?_, ?_, ?_, ?_, ?_, ?_, ?_⟩ <;> (rw [ho2.cell (by simpa [World.heap_size_drew'] using hg)]; first | exact e0 | exact e1 | exact e2 | exact e3 | exact d0 | exact d1 | exact d2 | exact d3)))
          (first
            | (go_at_call 47; refine (eqK_any x y g _ ?_ ?_).mono ?_; exact (okDrew hx); exact (okDrew hy); rintro e w2 ⟨rfl, ho2⟩))
        have ho3 : Below wr.heap.size wr w2 := (Below.drew (Below.refl _ _)).trans ho2
        have hbw : Below w.heap.size w w2 := hbl.trans (ho3.mono hbl.size)
        have hg2 : g < w2.heap.size := Nat.lt_of_lt_of_le hg ho3.size
        cases hq : (ordK x y == 0)
        · have hkj : keepK ks (j + 1) = true := by
            simp only [keepK, Nat.add_sub_cancel, Hx.out, Hy.out]
            simp at hq ⊢; exact hq
          have Hkj : Hid (keepK ks (j + 1) = true) := hkj
          clear hkj
          go_wp2_with fail
          go_roundw
          case rel => exact ⟨j + 1, by go_num, hlast, fun i hi => by rcases Nat.lt_or_ge i (j + 1) with h | h; exact Hkeep.out i (by omega); rw [show i = j + 1 by omega]; exact Hkj.out, Hrow.out.below ho3, hbw⟩
          case measure => simp [intOf]; omega
        · have hkj : keepK ks (j + 1) = false := by
            simp only [keepK, Nat.add_sub_cancel, Hx.out, Hy.out]
            simp at hq ⊢; exact hq
          have Hkj : Hid (keepK ks (j + 1) = false) := hkj
          clear hkj
          have hst : keptTo ks (j + 1) = ks.take (j + 1) := keptTo_all ks (j + 1) (by omega) (fun i hi => Hkeep.out i (by omega))
          have hst2 : keptTo ks (j + 2) = ks.take (j + 1) := by rw [mixK_same ks (j + 1) Hkj.out, hst]
          have hmix0 : mixK ks (j + 2) = ks := by rw [mixK, hst2, List.length_take, Nat.min_eq_left (by omega), List.take_append_drop]
          have Hst2 : Hid (keptTo ks (j + 2) = ks.take (j + 1)) := hst2
          have Hmix0 : Hid (mixK ks (j + 2) = ks) := hmix0
          clear hst hst2 hmix0
          go_wp2_with fail
          obtain ⟨wo, rfl⟩ : ∃ wo : World, wo = wr := ⟨_, rfl⟩
          go_loopw [5, 7] (fun kv qv wi => ∃ kk q : Nat, kv = .int .i64 (kk : Int) ∧ qv = .int .i64 ((q : Int) + 1) ∧ j + 1 + q < ks.length ∧ kk = (keptTo ks (j + 2 + q)).length ∧ kk ≤ j + 1 + q ∧ RowAt wi g (mixK ks (j + 2 + q)) ∧ Only g w wi) (fun _ qv _ => ks.length - (intOf qv).toNat)
          case atStart =>
            refine ⟨j + 1, 0, by go_num, rfl, by omega, ?_, by omega, ?_, (Only.refl _ _).below hbw⟩
            · rw [Nat.add_zero, Hst2.out, List.length_take]; omega
            · rw [Nat.add_zero, Hmix0.out]; exact Hrow.out.below ho3
          case round =>
            obtain ⟨kk, q, rfl, rfl, hq1, hkk, hkq, hrw, how⟩ := hrel
            have Hkk : Hid (kk = (keptTo ks (j + 2 + q)).length) := hkk
            clear hkk e0 e1 e2 e3 d0 d1 d2 d3 hx hy hi0 hi1 hi2 ew
            have hml := mixK_length ks (j + 2 + q) (by omega)
            have Hml : Hid ((mixK ks (j + 2 + q)).length = ks.length) := hml
            have hgi := hrw.1
            clear hml
            by_cases hq2 : j + 1 + q + 1 < ks.length
            · obtain ⟨e0, e1, e2, e3⟩ := hrw.at (j + 1 + q + 1) (by rw [Hml.out]; exact hq2)
              obtain ⟨d0, d1, d2, d3⟩ := hrw.at (j + 1 + q) (by rw [Hml.out]; exact hq1)
              have hx := hrw.ok (j + 1 + q + 1) (by rw [Hml.out]; exact hq2)
              have hy := hrw.ok (j + 1 + q) (by rw [Hml.out]; exact hq1)
              rw [mixK_get ks _ _ (by rw [← Hkk.out]; omega)] at e0 e1 e2 e3 d0 d1 d2 d3 hx hy
              have hP : j + 1 + q + 1 = j + 2 + q := by omega
              rw [hP] at e0 e1 e2 e3 hx
              have hkeepP : keepK ks (j + 2 + q) = (ordK (ks.getD (j + 2 + q) kd0) (ks.getD (j + 1 + q) kd0) != 0) := by
                rw [keepK, show j + 2 + q - 1 = j + 1 + q by omega, show ((j + 2 + q == 0) = false) from beq_eq_false_iff_ne.2 (by omega)]; rfl
              have HkP : Hid (keepK ks (j + 2 + q) = (ordK (ks.getD (j + 2 + q) kd0) (ks.getD (j + 1 + q) kd0) != 0)) := hkeepP
              clear hkeepP
              rw [show (j + 2 + q) * 4 = (j + 1) * 4 + (q + 1) * 4 from by omega] at e0 e1 e2 e3
              rw [show (j + 1 + q) * 4 = (j + 1) * 4 + q * 4 from by omega] at d0 d1 d2 d3
              generalize hx0 : ks.getD (j + 2 + q) kd0 = x' at *
              generalize hy0 : ks.getD (j + 1 + q) kd0 = y' at *
              have Hx' : Hid (ks.getD (j + 2 + q) kd0 = x') := hx0
              clear hx0 hy0 hP
              have ew : IntKind.i64.wrap (q : Int) = (q : Int) := wrap_in _ (by omega) (by omega)
              have hi0 : (0 : Int) ≤ (q : Int) + 1 := by omega
              have hi1 : (q : Int) + 1 < ((ks.length - (j + 1) : Nat) : Int) := by omega
              have hi2 : (q : Int) < ((ks.length - (j + 1) : Nat) : Int) := by omega
              have Hrw : Hid (RowAt wr g (mixK ks (j + 2 + q))) := hrw
              clear hrw
              go_wp2_with fail
              go_region_held3 (fun w' => w'.cell? ⟨g, (j + 1) * 4 + (q + 1) * 4, none⟩ = some (.int .i64 x'.a.kind) ∧ w'.cell? ⟨g, (j + 1) * 4 + (q + 1) * 4 + 1, none⟩ = some (.int .i64 x'.a.n) ∧ w'.cell? ⟨g, (j + 1) * 4 + (q + 1) * 4 + 2, none⟩ = some (.string x'.a.s) ∧ w'.cell? ⟨g, (j + 1) * 4 + (q + 1) * 4 + 3, none⟩ = some (.slice x'.A (flen x'.l) x'.cap) ∧
                  w'.cell? ⟨g, (j + 1) * 4 + q * 4, none⟩ = some (.int .i64 y'.a.kind) ∧ w'.cell? ⟨g, (j + 1) * 4 + q * 4 + 1, none⟩ = some (.int .i64 y'.a.n) ∧ w'.cell? ⟨g, (j + 1) * 4 + q * 4 + 2, none⟩ = some (.string y'.a.s) ∧ w'.cell? ⟨g, (j + 1) * 4 + q * 4 + 3, none⟩ = some (.slice y'.A (flen y'.l) y'.cap))
                (first | exact ⟨e0, e1, e2, e3, d0, d1, d2, d3⟩ | (refine ⟨?_, ?_, ?_, ?_, ?_, ?_, ?_, ?_⟩ <;> (rw [ho4.cell (by simpa [World.heap_size_drew'] using hgi)]; first | exact e0 | exact e1 | exact e2 | exact e3 | exact d0 | exact d1 | exact d2 | exact d3)))
                (first
                  | (go_at_call 47; refine (eqK_any x' y' g _ ?_ ?_).mono ?_; exact (okDrew hx); exact (okDrew hy); rintro e w4 ⟨rfl, ho4⟩))
              have ho5 : Below wr.heap.size wr w4 := (Below.drew (Below.refl _ _)).trans ho4
              have hr4 := Hrw.out.below ho5
              have hg4 := hr4.1
              cases hq' : (ordK x' y' == 0)
              · have hkP : keepK ks (j + 2 + q) = true := by rw [HkP.out]; simp at hq' ⊢; exact hq'
                have HkT : Hid (keepK ks (j + 2 + q) = true) := hkP
                clear hkP
                obtain ⟨z, Bk, hm1, hm2⟩ := mixK_next ks (j + 2 + q) HkT.out (by omega) (by rw [← Hkk.out]; omega)
                have Hm1 : Hid (mixK ks (j + 2 + q) = keptTo ks (j + 2 + q) ++ z :: Bk) := hm1
                have Hm2 : Hid (mixK ks (j + 2 + q + 1) = keptTo ks (j + 2 + q) ++ ks.getD (j + 2 + q) kd0 :: Bk) := hm2
                clear hm1 hm2
                have c0 := (ho5.cell hgi).trans e0
                have c1 := (ho5.cell hgi).trans e1
                have c2 := (ho5.cell hgi).trans e2
                have c3 := (ho5.cell hgi).trans e3
                obtain ⟨s0, s1, s2, s3⟩ := hr4.at kk (by rw [Hml.out]; omega)
                have f0 := (hr4.2.1 (kk * 4) (by rw [Hml.out]; omega)).2
                have f1 := (hr4.2.1 (kk * 4 + 1) (by rw [Hml.out]; omega)).2
                have f2 := (hr4.2.1 (kk * 4 + 2) (by rw [Hml.out]; omega)).2
                have f3 := (hr4.2.1 (kk * 4 + 3) (by rw [Hml.out]; omega)).2
                have hk0 : (kk : Int) < (ks.length : Int) := by omega
                have Hr4 : Hid (RowAt w4 g (mixK ks (j + 2 + q))) := hr4
                clear hr4 e0 e1 e2 e3 d0 d1 d2 d3
                generalize hs0 : (mixK ks (j + 2 + q)).getD kk kd0 = sk at *
                clear hs0
                go_wp2_with fail
                go_roundw
                case rel =>
                  have hr5 := Hr4.out
                  rw [Hm1.out] at hr5
                  have hx5 : x'.Ok w4 (fun b => b < w4.heap.size ∧ b ≠ g) ∧ x'.Ar := ⟨hx.1.keep (fun b hb => ⟨Nat.lt_of_lt_of_le hb.1 ho5.size, hb.2⟩) (fun b o hb => ho5.cell hb.1), hx.2⟩
                  have hput := hr5.put hx5 (kk * 4) (by rw [Hkk.out])
                  refine ⟨kk + 1, q + 1, by go_num, by go_num, by omega, ?_, by omega, ?_, ?_⟩
                  · rw [show j + 2 + (q + 1) = j + 2 + q + 1 by omega, keptTo, HkT.out, if_pos rfl, List.length_append, ← Hkk.out]; rfl
                  · rw [show j + 2 + (q + 1) = j + 2 + q + 1 by omega, Hm2.out, Hx'.out]; exact hput
                  · have h6 := how.below ho5
                    exact Only.setCell (p := ⟨g, kk * 4 + 3, none⟩) (Only.setCell (p := ⟨g, kk * 4 + 2, none⟩) (Only.setCell (p := ⟨g, kk * 4 + 1, none⟩) (Only.setCell (p := ⟨g, kk * 4, none⟩) h6 (.inl rfl) _) (.inl rfl) _) (.inl rfl) _) (.inl rfl) _
                case measure => simp [intOf]; omega
              · have hkP : keepK ks (j + 2 + q) = false := by rw [HkP.out]; simp at hq' ⊢; exact hq'
                have HkT : Hid (keepK ks (j + 2 + q) = false) := hkP
                clear hkP
                go_wp2_with fail
                go_roundw
                case rel =>
                  refine ⟨kk, q + 1, rfl, by go_num, by omega, ?_, by omega, ?_, how.below ho5⟩
                  · rw [show j + 2 + (q + 1) = j + 2 + q + 1 by omega, mixK_same ks _ HkT.out]; exact Hkk.out
                  · rw [show j + 2 + (q + 1) = j + 2 + q + 1 by omega, mixK, mixK_same ks _ HkT.out]; exact hr4
                case measure => simp [intOf]; omega
            · have hd : decide ((q : Int) + 1 < ((ks.length - (j + 1) : Nat) : Int)) = false := by simp; omega
              have hPN : j + 2 + q = ks.length := by omega
              have hkn : (keptTo ks ks.length).length = kk := by rw [← hPN]; exact Hkk.out.symm
              have hrN : RowAt wr g (keptTo ks ks.length ++ ks.drop kk) := by have := hrw; rw [hPN, mixK, hkn] at this; exact this
              have hcl : ∀ ty, (Builtin.clear_ #[24] ty #[.slice (some ⟨g, kk * 4, none⟩) (ks.length - kk) (cap - kk)]).run Tryd.prog wr = .ok (.tuple #[]) (wr.setCells g (kk * 4) (zeros4 (ks.length - kk))) := fun ty =>
                run_clear4 wr ty g (kk * 4) (ks.length - kk) (cap - kk) (by omega) (fun t ht => by rw [(hrw.2.1 (kk * 4 + t) (by rw [Hml.out]; omega)).1, List.getElem?_eq_getElem (by rw [rowOf_length, Hml.out]; omega)]; rfl) (fun t ht => (hrw.2.1 (kk * 4 + t) (by rw [Hml.out]; omega)).2)
              have Hkn : Hid ((keptTo ks ks.length).length = kk) := hkn
              have HrN : Hid (RowAt wr g (keptTo ks ks.length ++ ks.drop kk)) := hrN
              have hk0 : (kk : Int) ≤ (ks.length : Int) := by omega
              have hk1 : (kk : Int) ≤ (cap : Int) := by omega
              clear hPN hkn hrN hrw
              go_wp2_with fail
              go_ret
              refine ⟨by rw [Hkn.out]; rfl, ?_, how.setCells _ _⟩
              have := HrN.out.cut (zeros4 (ks.length - kk))
              rw [Hkn.out] at this; exact this
      · have hd : decide ((j : Int) + 1 < (ks.length : Int)) = false := by simp; omega
        have hkt : keptTo ks ks.length = ks := by
          rw [keptTo_all ks ks.length (Nat.le_refl _) (fun i hi => Hkeep.out i (by omega)), List.take_length]
        have Hkt : Hid (keptTo ks ks.length = ks) := hkt
        clear hkt
        go_wp2_with fail
        go_ret
        exact ⟨by rw [Hkt.out]; rfl, by rw [Hkt.out]; exact hrow, (Only.refl _ _).below hbl⟩

end Go.Proofs.YtldpnhlifgkmiaaDoor
