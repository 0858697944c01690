import Derived.Test.YtgmmbfnmojjbkaaGreatDoorR2
import Derived.Test.YtgmmbfnmojjbkaaGreatDoorM1
import Derived.Test.YtgmmbfnmojjbkaaGreatDoorShelf
import Derived.Deep.RegionHeld3
import Derived.Lib.SliceRun
import Derived.Test.YtgmmbfnmojjbkaaGreatDoorW14
import Derived.Test.YtgmmbfnmojjbkaaGreatDoorW10
namespace Go.Proofs.YtgmmbfnmojjbkaaGreatDoor
open Go.RowKit Go.Sort Go.Shelf
set_option linter.unusedVariables false
set_option linter.unusedSimpArgs false

theorem grow_of {w w' : World} (h : Below w.heap.size w w') (hd : w.drawn ≤ w'.drawn) : ∃ q os', w' = Sort.grow (w.drewN q) os' := by
  refine ⟨w'.drawn - w.drawn, w'.heap.extract w.heap.size w'.heap.size, ?_⟩
  have hh : w'.heap = w.heap ++ w'.heap.extract w.heap.size w'.heap.size := by
    apply Array.ext_getElem?
    intro k
    by_cases hk : k < w.heap.size
    · rw [h.block k hk, Array.getElem?_append_left hk]
    · rw [Array.getElem?_append_right (by omega), Array.getElem?_extract]
      by_cases h2 : k < w'.heap.size
      · rw [if_pos (by omega), show w.heap.size + (k - w.heap.size) = k from by omega]
      · rw [if_neg (by omega), Array.getElem?_eq_none (by omega)]
  obtain ⟨heap, tape, drawn, os, output⟩ := w'
  obtain ⟨heap0, tape0, drawn0, os0, output0⟩ := w
  obtain ⟨h1, h2, h3, _, _⟩ := h
  simp only at *
  subst h1 h2 h3
  simp only [Sort.grow, World.drewN]
  rw [← hh, show drawn0 + (drawn - drawn0) = drawn from by omega]

/-- The order of two terms of a row. -/
def ordK (j k : Kd) : Int := ordT j.a j.l k.a k.l

/-- A term of a row is a term. -/
def Kd.Ar (k : Kd) : Prop := (flen k.l : Int) = kidsOf k.a.kind ∧ ArF k.l

theorem lt_ord {α : Type} (f : α → Kd) (x y : α) : ltOf (fun x y => ordK (f x) (f y)) x y = decide (ordT (f x).a (f x).l (f y).a (f y).l < 0) := rfl

theorem swo_ord {α : Type} (f : α → Kd) : Sort.SWO (ltOf fun x y => ordK (f x) (f y)) where
  irrefl := fun x => by rw [lt_ord, ordT_self]; rfl
  trans := fun x y z h1 h2 => by
    have t := tri_ordT (f x).a (f x).l (f y).a (f y).l (f z).a (f z).l
    rw [lt_ord, decide_eq_true_eq] at *
    unfold Tri at t; omega
  ntrans := fun x y z h1 h2 => by
    have t := tri_ordT (f x).a (f x).l (f y).a (f y).l (f z).a (f z).l
    rw [lt_ord, decide_eq_false_iff_not] at *
    unfold Tri at t; omega

theorem isAgg_term (w : World) : (isAgg 24).run Tryz.prog w = .ok true w := by kernel_rfl
theorem sizeOf_term (w : World) : (Go.sizeOf 24).run Tryz.prog w = .ok 4 w := by kernel_rfl

theorem rowOf_get : ∀ (ks : List Kd) (t : Nat), (rowOf ks)[t]? = (ks[t / 4]?).bind fun k => k.cells[t % 4]?
  | [], t => by simp [rowOf]
  | k :: r, t => by
    rw [rowOf]
    by_cases h : t < 4
    · rw [List.getElem?_append_left (by simp [Kd.cells]; omega), Nat.div_eq_of_lt h, Nat.mod_eq_of_lt h]; simp
    · rw [List.getElem?_append_right (by simp [Kd.cells]; omega)]
      have h1 : t / 4 = (t - 4) / 4 + 1 := by omega
      have h2 : t % 4 = (t - 4) % 4 := by omega
      rw [h1, h2, List.getElem?_cons_succ]
      simpa [Kd.cells] using rowOf_get r (t - 4)

theorem flatK_get {α : Type} [Inhabited α] (f : α → Kd) (d : Array α) (t : Nat) (h : t < 4 * d.size) : some ((flatK (fun x => (f x).cells) 4 d)[t]!) = (rowOf (d.toList.map f))[t]? := by
  rw [get_flatK _ _ _ _ (by omega), rowOf_get]
  have h1 : t / 4 < d.size := by omega
  have h2 : t % 4 < 4 := by omega
  simp only [List.getElem?_map, Array.getElem?_toList, Array.getElem?_eq_getElem h1, Option.map_some, Option.bind_some, getElem!_pos d (t / 4) h1]
  have h3 : t % 4 < (f d[t / 4]).cells.length := by simpa [Kd.cells] using h2
  rw [List.getElem?_eq_getElem h3, getElem!_pos (f d[t / 4]).cells (t % 4) h3]

/-- The row lies in block g, its kids elsewhere. -/
def RowAt (w : World) (g : Nat) (ks : List Kd) : Prop :=
  g < w.heap.size ∧ (∀ j, j < 4 * ks.length → w.cell? ⟨g, j, none⟩ = (rowOf ks)[j]? ∧ w.frozen? ⟨g, j, none⟩ = false) ∧ ∀ k ∈ ks, k.Ok w (fun b => b < w.heap.size ∧ b ≠ g) ∧ k.Ar

theorem cmp_row {α : Type} [Inhabited α] (f : α → Kd) (w : World) (g n : Nat) (hg : g < w.heap.size) (hf : ∀ x, (f x).Ok w (fun b => b < w.heap.size ∧ b ≠ g) ∧ (f x).Ar) :
    CmpLays Tryz.prog 76 #[] (fun x => (f x).cells) 4 (fun x y => ordK (f x) (f y)) g 0 n w := by
  intro m os dk hs x y
  have hcell : ∀ b o, b < w.heap.size ∧ b ≠ g → (sortWorldK (fun x => (f x).cells) 4 w g 0 m dk os).cell? ⟨b, o, none⟩ = w.cell? ⟨b, o, none⟩ := fun b o hb => by
    unfold sortWorldK
    rw [Sort.cell?_grow _ _ _ (by simpa [putRowK, Sort.putRow, Sort.mapBlock, Sort.ahead] using hb.1)]
    show (Sort.putRow id _ g 0 _).cell? _ = _
    rw [Sort.cell?_putRow_other _ _ _ _ _ _ (.inl hb.2)]; rfl
  have hsz : w.heap.size ≤ (sortWorldK (fun x => (f x).cells) 4 w g 0 m dk os).heap.size := by simp [sortWorldK, putRowK, Sort.putRow, Sort.mapBlock, Sort.ahead]
  have rep : ∀ z, RepV (sortWorldK (fun x => (f x).cells) 4 w g 0 m dk os) w.heap.size (f z).a (f z).l (.agg #[.int .i64 (f z).a.kind, .int .i64 (f z).a.n, .string (f z).a.s, .slice (f z).A (flen (f z).l) (f z).cap]) := fun z =>
    ⟨(hf z).1.1, _, _, _, _, rfl, (hf z).1.2.1, (hf z).1.2.2.1, RepG.toF (S := fun b => b < w.heap.size) (fun _ h => h) (RepG.keep (fun b hb => hb.1) hcell (hf z).1.2.2.2)⟩
  have h := ordD_any (f x).a (f x).l _ _ (f y).a (f y).l w.heap.size _ (rep x) (rep y) hsz (hf x).2.1 (hf y).2.1 (hf x).2.2 (hf y).2.2
  refine h.mono ?_
  rintro e w' ⟨rfl, hb, hd⟩
  exact ⟨rfl, grow_of hb hd⟩

set_option maxHeartbeats 1000000 in
theorem sortFunc_any (w : World) (g cap : Nat) (ks : List Kd) (h : RowAt w g ks) (hn : 0 < ks.length) (hsz : ks.length < 4611686018427387904) :
    Calls Tryz.prog 75 #[.slice (some ⟨g, 0, none⟩) ks.length cap, .func (.func 76) #[] #[]] w fun e w' =>
      e = .returned (.tuple #[]) ∧ ∃ js : List Kd, js.Perm ks ∧ js.Pairwise (fun j k => 0 ≤ ordK k j) ∧ RowAt w' g js ∧ Only g w w' := by
  obtain ⟨hg, hc, hk⟩ := h
  haveI : Inhabited (Fin ks.length) := ⟨⟨0, hn⟩⟩
  have hfr : (List.finRange ks.length).toArray.toList.map ks.get = ks := List.ext_getElem (by simp) (by intros; simp)
  have hH : HoldsK (fun x => (ks.get x).cells) 4 w g 0 (List.finRange ks.length).toArray := by
    intro j hj
    have hj' : j < 4 * ks.length := by simpa [Nat.mul_comm] using hj
    have e := flatK_get ks.get (List.finRange ks.length).toArray j (by simpa using hj')
    rw [hfr] at e
    refine ⟨?_, by rw [Nat.zero_add]; exact (hc j hj').2⟩
    rw [Nat.zero_add, (hc j hj').1, ← e]; rfl
  have hcmp := cmp_row ks.get w g (List.finRange ks.length).toArray.size hg (fun x => hk _ (List.get_mem _ _))
  have h := AnyQ.slices_SortFunc (ρ := Tryz.sortK_ren) Tryz.sortK 4 isAgg_term sizeOf_term (fun x => (ks.get x).cells) (fun _ => rfl) (fun x v hv => by simp [Kd.cells] at hv; rcases hv with rfl | rfl | rfl | rfl <;> rfl) (fun x y => ordK (ks.get x) (ks.get y)) (swo_ord ks.get) 76 #[] g 0 cap (List.finRange ks.length).toArray w
    (enters_of Tryz.func76 (by kernel_rfl) rfl) hcmp hH hg (by simpa using hsz)
  rw [show (List.finRange ks.length).toArray.size = ks.length from by simp] at h
  refine Calls.mono h ?_
  rintro e w' ⟨rfl, d', m, os, ⟨hp1, hp2, hp3⟩, hso, hw⟩
  have hds : d'.size = ks.length := by rw [hp1]; simp
  refine ⟨rfl, d'.toList.map ks.get, ?_, ?_, ⟨?_, ?_, ?_⟩, ?_⟩
  · have e1 : d'.extract 0 ks.length = d' := Array.ext (by simp [hds]) (by intros; simp)
    have e2 : (List.finRange ks.length).toArray.extract 0 ks.length = (List.finRange ks.length).toArray := Array.ext (by simp) (by intros; simp)
    rw [e1, e2] at hp3
    have := hp3.map ks.get
    rwa [hfr] at this
  · rw [List.pairwise_iff_getElem]
    intro i j hi hj hij
    have h1 : j < d'.size := by simpa using hj
    have h2 : i < d'.size := by omega
    have := hso i j (Nat.zero_le _) hij (by omega)
    rw [lt_ord, decide_eq_false_iff_not, getElem!_pos d' j h1, getElem!_pos d' i h2] at this
    simp only [List.getElem_map, Array.getElem_toList]
    unfold ordK; omega
  · rw [hw]; simp [sortWorldK, putRowK, Sort.putRow, Sort.mapBlock, Sort.ahead]; omega
  · intro t ht
    have ht' : t < 4 * d'.size := by simpa using ht
    have hHw : HoldsK (fun x => (ks.get x).cells) 4 w' g 0 d' := by
      rw [hw]
      exact holdsK_grow _ _ _ _ _ _ _ (by simpa [putRowK, Sort.putRow, Sort.mapBlock, Sort.ahead] using hg) (holdsK_putRowK _ _ (Sort.ahead w m) _ _ _ _ hH (by simpa using hds))
    have h3 := hHw t (by rw [size_flatK]; omega)
    rw [Nat.zero_add] at h3
    exact ⟨by rw [h3.1, ← flatK_get ks.get d' t ht']; rfl, h3.2⟩
  · intro k hk'
    obtain ⟨x, _, rfl⟩ := List.mem_map.1 hk'
    refine ⟨(hk _ (List.get_mem _ _)).1.keep (fun b hb => ⟨?_, hb.2⟩) (fun b o hb => ?_), (hk _ (List.get_mem _ _)).2⟩
    · rw [hw]
      unfold sortWorldK
      rw [Sort.cell?_grow _ _ _ (by simpa [putRowK, Sort.putRow, Sort.mapBlock, Sort.ahead] using hb.1)]
      show (Sort.putRow id _ g 0 _).cell? _ = _
      rw [Sort.cell?_putRow_other _ _ _ _ _ _ (.inl hb.2)]; rfl
    · rw [hw]; simp [sortWorldK, putRowK, Sort.putRow, Sort.mapBlock, Sort.ahead]; omega
  · rw [hw]
    refine ⟨rfl, rfl, rfl, by simp [sortWorldK, putRowK, Sort.putRow, Sort.mapBlock, Sort.ahead], fun k hk' hne => ?_⟩
    unfold sortWorldK
    rw [Sort.heap_grow_old _ _ (by simpa [putRowK, Sort.putRow, Sort.mapBlock, Sort.ahead] using hk')]
    simp [putRowK, Sort.putRow, Sort.mapBlock, Sort.ahead, Array.getElem?_modify, Ne.symm hne]

end Go.Proofs.YtgmmbfnmojjbkaaGreatDoor

namespace Go.Proofs.YtgmmbfnmojjbkaaGreatDoor
open Go.RowKit
set_option linter.unusedVariables false
set_option linter.unusedSimpArgs false

theorem RepG.alloc2 {w : World} {S : Nat → Prop} {B : Nat} {f : Fo} {b o : Nat} (hr : RepG w S f b o) (hS : ∀ b, S b → b < B) (hB : B ≤ w.heap.size) (x y : Obj) : RepF ((w.alloc x).alloc y) B f b o :=
  RepF.keep (w := w) (Nat.le_refl _) (fun b' o' hb' => by rw [World.cell?_alloc_past _ _ _ (by simp; omega), World.cell?_alloc_past _ _ _ (by omega)]) (RepG.toF hS hr)

set_option maxHeartbeats 1000000 in
theorem eqK_any (j k : Kd) (g : Nat) (w : World) (hj : j.Ok w (fun b => b < w.heap.size ∧ b ≠ g) ∧ j.Ar) (hk : k.Ok w (fun b => b < w.heap.size ∧ b ≠ g) ∧ k.Ar) :
    Calls Tryz.prog 78 #[.agg #[.int .i64 j.a.kind, .int .i64 j.a.n, .string j.a.s, .slice j.A (flen j.l) j.cap], .agg #[.int .i64 k.a.kind, .int .i64 k.a.n, .string k.a.s, .slice k.A (flen k.l) k.cap]] w fun e w' =>
      e = .returned (.bool (ordK j k == 0)) ∧ Below w.heap.size w w' := by
  have Hj : Hid (j.Ok w (fun b => b < w.heap.size ∧ b ≠ g) ∧ j.Ar) := hj
  have Hk : Hid (k.Ok w (fun b => b < w.heap.size ∧ b ≠ g) ∧ k.Ar) := hk
  clear hj hk
  go_enter Tryz.func78, Tryz.ntmps78
  go_wp2_with fail
  have hj := Hj.out
  have hk := Hk.out
  refine (ord_any j.a j.l _ _ k.a k.l w.heap.size _ ⟨hj.1.1, _, _, _, _, rfl, hj.1.2.1, hj.1.2.2.1, RepG.alloc2 hj.1.2.2.2 (fun _ h => h.1) (Nat.le_refl _) _ _⟩ ⟨hk.1.1, _, _, _, _, rfl, hk.1.2.1, hk.1.2.2.1, RepG.alloc2 hk.1.2.2.2 (fun _ h => h.1) (Nat.le_refl _) _ _⟩ (by simp; omega) hj.2.1 hk.2.1 hj.2.2 hk.2.2).mono ?_
  clear hj hk
  rintro e w1 ⟨rfl, ho⟩
  go_wp2_with fail
  go_ret
  exact ⟨rfl, Below.trans (by repeat (first | exact Below.refl _ _ | assumption | refine below_drewN ?_ _ | refine Below.drew ?_ | refine Below.alloc ?_ (by simp <;> omega) _ | refine Below.setCell ?_ (by simp <;> omega) _)) (ho.mono (by simp; omega))⟩

theorem okDrew {w : World} {g : Nat} {k : Kd} (h : k.Ok w (fun b => b < w.heap.size ∧ b ≠ g) ∧ k.Ar) : k.Ok w.drew (fun b => b < w.drew.heap.size ∧ b ≠ g) ∧ k.Ar :=
  ⟨Kd.Ok.keep (w := w) (w' := w.drew) (fun _ h => h) (fun _ _ _ => rfl) h.1, h.2⟩

def kd0 : Kd := ⟨0, 0, ⟨0, 0, ByteArray.empty⟩, .nil, none, 0, 0, 0⟩
/-- Is the term of number m kept? -/
def keepK (ks : List Kd) (m : Nat) : Bool := m == 0 || ordK (ks.getD m kd0) (ks.getD (m - 1) kd0) != 0
/-- Those of the first m that are kept. -/
def keptTo (ks : List Kd) : Nat → List Kd
  | 0 => []
  | m + 1 => keptTo ks m ++ (if keepK ks m then [ks.getD m kd0] else [])

theorem keptTo_all (ks : List Kd) : ∀ m, m ≤ ks.length → (∀ i, i < m → keepK ks i = true) → keptTo ks m = ks.take m
  | 0, _, _ => rfl
  | m + 1, h, hk => by
    rw [keptTo, keptTo_all ks m (by omega) (fun i hi => hk i (by omega)), if_pos (hk m (by omega)), List.take_succ_eq_append_getElem (by omega)]
    simp [List.getD, List.getElem?_eq_getElem (show m < ks.length by omega)]

theorem keptTo_le (ks : List Kd) : ∀ m, (keptTo ks m).length ≤ m
  | 0 => Nat.le_refl _
  | m + 1 => by have := keptTo_le ks m; rw [keptTo, List.length_append]; split <;> simp <;> omega

theorem keptTo_mem (ks : List Kd) : ∀ m, m ≤ ks.length → ∀ k ∈ keptTo ks m, k ∈ ks
  | 0, _, k, h => by simp [keptTo] at h
  | m + 1, hm, k, h => by
    rw [keptTo] at h
    rcases List.mem_append.1 h with h | h
    · exact keptTo_mem ks m (by omega) k h
    · split at h
      · simp at h; rw [h, List.getElem?_eq_getElem (show m < ks.length by omega)]; simp
      · simp at h

/-- The cells of one term of a row. -/
theorem RowAt.at {w : World} {g : Nat} {ks : List Kd} (h : RowAt w g ks) (m : Nat) (hm : m < ks.length) :
    w.cell? ⟨g, m * 4, none⟩ = some (.int .i64 (ks.getD m kd0).a.kind) ∧ w.cell? ⟨g, m * 4 + 1, none⟩ = some (.int .i64 (ks.getD m kd0).a.n) ∧ w.cell? ⟨g, m * 4 + 2, none⟩ = some (.string (ks.getD m kd0).a.s) ∧
      w.cell? ⟨g, m * 4 + 3, none⟩ = some (.slice (ks.getD m kd0).A (flen (ks.getD m kd0).l) (ks.getD m kd0).cap) := by
  have c : ∀ j, j < 4 → w.cell? ⟨g, m * 4 + j, none⟩ = (ks.getD m kd0).cells[j]? := fun j hj => by
    rw [(h.2.1 (m * 4 + j) (by omega)).1, rowOf_get, show (m * 4 + j) / 4 = m from by omega, show (m * 4 + j) % 4 = j from by omega]
    simp [List.getD, List.getElem?_eq_getElem hm]
  exact ⟨c 0 (by omega), c 1 (by omega), c 2 (by omega), c 3 (by omega)⟩

theorem RowAt.ok {w : World} {g : Nat} {ks : List Kd} (h : RowAt w g ks) (m : Nat) (hm : m < ks.length) : (ks.getD m kd0).Ok w (fun b => b < w.heap.size ∧ b ≠ g) ∧ (ks.getD m kd0).Ar :=
  h.2.2 _ (by simp [List.getD, List.getElem?_eq_getElem hm])

theorem RowAt.below {w w' : World} {g : Nat} {ks : List Kd} (h : RowAt w g ks) (hb : Below w.heap.size w w') : RowAt w' g ks := by
  obtain ⟨h1, h2, h3⟩ := h
  refine ⟨Nat.lt_of_lt_of_le h1 hb.size, fun j hj => ⟨by rw [hb.cell h1]; exact (h2 j hj).1, by rw [hb.frozen h1]; exact (h2 j hj).2⟩, fun k hk => ⟨(h3 k hk).1.keep (fun b hb' => ⟨Nat.lt_of_lt_of_le hb'.1 hb.size, hb'.2⟩) (fun b o hb' => hb.cell hb'.1), (h3 k hk).2⟩⟩

/-- What is kept of the first P, and behind it the row as it was. -/
def mixK (ks : List Kd) (P : Nat) : List Kd := keptTo ks P ++ ks.drop (keptTo ks P).length

theorem mixK_length (ks : List Kd) (P : Nat) (h : P ≤ ks.length) : (mixK ks P).length = ks.length := by
  have := keptTo_le ks P
  rw [mixK, List.length_append, List.length_drop]; omega

theorem mixK_get (ks : List Kd) (P i : Nat) (h : (keptTo ks P).length ≤ i) : (mixK ks P).getD i kd0 = ks.getD i kd0 := by
  rw [mixK, List.getD_eq_getElem?_getD, List.getD_eq_getElem?_getD, List.getElem?_append_right h, List.getElem?_drop, show (keptTo ks P).length + (i - (keptTo ks P).length) = i from by omega]

theorem mixK_same (ks : List Kd) (P : Nat) (h : keepK ks P = false) : keptTo ks (P + 1) = keptTo ks P := by rw [keptTo, h]; simp

theorem mixK_next (ks : List Kd) (P : Nat) (h : keepK ks P = true) (hP : P < ks.length) (hk : (keptTo ks P).length < ks.length) :
    ∃ z B, mixK ks P = keptTo ks P ++ z :: B ∧ mixK ks (P + 1) = keptTo ks P ++ ks.getD P kd0 :: B := by
  refine ⟨ks[(keptTo ks P).length], ks.drop ((keptTo ks P).length + 1), ?_, ?_⟩
  · rw [mixK, List.drop_eq_getElem_cons hk]
  · rw [mixK, keptTo, h, if_pos rfl, List.length_append, List.append_assoc]; rfl

theorem cell_set4_in (w : World) (g o : Nat) (u0 u1 u2 u3 : Value) (h0 : (w.cell? ⟨g, o, none⟩).isSome = true) (h1 : (w.cell? ⟨g, o + 1, none⟩).isSome = true) (h2 : (w.cell? ⟨g, o + 2, none⟩).isSome = true) (h3 : (w.cell? ⟨g, o + 3, none⟩).isSome = true) (t : Nat) :
    ((((w.setCell ⟨g, o, none⟩ u0).setCell ⟨g, o + 1, none⟩ u1).setCell ⟨g, o + 2, none⟩ u2).setCell ⟨g, o + 3, none⟩ u3).cell? ⟨g, t, none⟩ = if t = o then some u0 else if t = o + 1 then some u1 else if t = o + 2 then some u2 else if t = o + 3 then some u3 else w.cell? ⟨g, t, none⟩ := by
  have so : ∀ (W : World) (a b : Nat) (v : Value), a ≠ b → (W.setCell ⟨g, a, none⟩ v).cell? ⟨g, b, none⟩ = W.cell? ⟨g, b, none⟩ := fun W a b v h => by
    rw [World.cell?_setCell_other]; intro e; injection e with e1 e2; exact h e2
  by_cases a3 : t = o + 3
  · subst a3
    rw [if_neg (by omega), if_neg (by omega), if_neg (by omega), if_pos rfl]
    refine World.cell?_setCell_same' _ _ _ ?_
    rw [so _ _ _ _ (by omega), so _ _ _ _ (by omega), so _ _ _ _ (by omega)]; exact h3
  · rw [so _ _ _ _ (Ne.symm a3)]
    by_cases a2 : t = o + 2
    · subst a2
      rw [if_neg (by omega), if_neg (by omega), if_pos rfl]
      refine World.cell?_setCell_same' _ _ _ ?_
      rw [so _ _ _ _ (by omega), so _ _ _ _ (by omega)]; exact h2
    · rw [so _ _ _ _ (Ne.symm a2)]
      by_cases a1 : t = o + 1
      · subst a1
        rw [if_neg (by omega), if_pos rfl]
        refine World.cell?_setCell_same' _ _ _ ?_
        rw [so _ _ _ _ (by omega)]; exact h1
      · rw [so _ _ _ _ (Ne.symm a1)]
        by_cases a0 : t = o
        · subst a0
          rw [if_pos rfl]
          exact World.cell?_setCell_same' _ _ _ h0
        · rw [so _ _ _ _ (Ne.symm a0), if_neg a0, if_neg a1, if_neg a2, if_neg a3]

theorem RowAt.put {w : World} {g : Nat} {A B : List Kd} {z x : Kd} (h : RowAt w g (A ++ z :: B)) (hx : x.Ok w (fun b => b < w.heap.size ∧ b ≠ g) ∧ x.Ar) (o : Nat) (ho : o = A.length * 4) :
    RowAt ((((w.setCell ⟨g, o, none⟩ (.int .i64 x.a.kind)).setCell ⟨g, o + 1, none⟩ (.int .i64 x.a.n)).setCell ⟨g, o + 2, none⟩ (.string x.a.s)).setCell ⟨g, o + 3, none⟩ (.slice x.A (flen x.l) x.cap)) g (A ++ x :: B) := by
  subst ho
  obtain ⟨h1, h2, h3⟩ := h
  have hs : ∀ c, c < 4 → (w.cell? ⟨g, A.length * 4 + c, none⟩).isSome = true := fun c hc => by
    rw [(h2 (A.length * 4 + c) (by simp; omega)).1, List.getElem?_eq_getElem (by rw [rowOf_length]; simp; omega)]; rfl
  have hsz : ((((w.setCell ⟨g, A.length * 4, none⟩ (.int .i64 x.a.kind)).setCell ⟨g, A.length * 4 + 1, none⟩ (.int .i64 x.a.n)).setCell ⟨g, A.length * 4 + 2, none⟩ (.string x.a.s)).setCell ⟨g, A.length * 4 + 3, none⟩ (.slice x.A (flen x.l) x.cap)).heap.size = w.heap.size := by simp [World.setCell]
  have hot : ∀ b o, b < w.heap.size ∧ b ≠ g → ((((w.setCell ⟨g, A.length * 4, none⟩ (.int .i64 x.a.kind)).setCell ⟨g, A.length * 4 + 1, none⟩ (.int .i64 x.a.n)).setCell ⟨g, A.length * 4 + 2, none⟩ (.string x.a.s)).setCell ⟨g, A.length * 4 + 3, none⟩ (.slice x.A (flen x.l) x.cap)).cell? ⟨b, o, none⟩ = w.cell? ⟨b, o, none⟩ := fun b o hb => by
    rw [World.cell?_setCell_other, World.cell?_setCell_other, World.cell?_setCell_other, World.cell?_setCell_other]
    all_goals (intro e; injection e with e1; exact hb.2 e1.symm)
  refine ⟨by rw [hsz]; exact h1, fun t ht => ⟨?_, by simpa using (h2 t (by simp at ht ⊢; omega)).2⟩, fun k hk => ?_⟩
  · rw [cell_set4_in w g (A.length * 4) _ _ _ _ (hs 0 (by omega)) (hs 1 (by omega)) (hs 2 (by omega)) (hs 3 (by omega)), (h2 t (by simp at ht ⊢; omega)).1, rowOf_get, rowOf_get]
    by_cases hb : t / 4 = A.length
    · have hm : t % 4 = 0 ∨ t % 4 = 1 ∨ t % 4 = 2 ∨ t % 4 = 3 := by omega
      rw [hb]
      rcases hm with e | e | e | e
      · rw [if_pos (by omega), e]; simp [Kd.cells]
      · rw [if_neg (by omega), if_pos (by omega), e]; simp [Kd.cells]
      · rw [if_neg (by omega), if_neg (by omega), if_pos (by omega), e]; simp [Kd.cells]
      · rw [if_neg (by omega), if_neg (by omega), if_neg (by omega), if_pos (by omega), e]; simp [Kd.cells]
    · rw [if_neg (by omega), if_neg (by omega), if_neg (by omega), if_neg (by omega)]
      congr 1
      by_cases hl : t / 4 < A.length
      · rw [List.getElem?_append_left hl, List.getElem?_append_left hl]
      · rw [List.getElem?_append_right (by omega), List.getElem?_append_right (by omega)]
        have : t / 4 - A.length = (t / 4 - A.length - 1) + 1 := by omega
        rw [this]; simp
  · have : (x.Ok w (fun b => b < w.heap.size ∧ b ≠ g) ∧ x.Ar) ∧ ∀ k ∈ A ++ z :: B, k.Ok w (fun b => b < w.heap.size ∧ b ≠ g) ∧ k.Ar := ⟨hx, h3⟩
    have hk2 : k.Ok w (fun b => b < w.heap.size ∧ b ≠ g) ∧ k.Ar := by
      simp at hk
      rcases hk with hk | rfl | hk
      · exact h3 k (by simp [hk])
      · exact hx
      · exact h3 k (by simp [hk])
    exact ⟨hk2.1.keep (fun b hb => ⟨by rw [hsz]; exact hb.1, hb.2⟩) hot, hk2.2⟩

def zero4 : List Value := [.int .i64 0, .int .i64 0, .string ⟨#[]⟩, .slice none 0 0]
def zeros4 (n : Nat) : List Value := (Builtin.zeroCells zero4.toArray n).toList

theorem zeros4_length (n : Nat) : (zeros4 n).length = n * 4 := by simp [zeros4, Builtin.zeroCells, zero4]

theorem zeros4_one (n : Nat) : ∀ v ∈ zeros4 n, v.oneCell' = true := by
  intro v hv
  simp only [zeros4, Builtin.zeroCells, Array.toList_map, List.mem_map] at hv
  obtain ⟨i, _, rfl⟩ := hv
  have h4 : i % zero4.toArray.size < 4 := Nat.mod_lt _ (by decide)
  generalize i % zero4.toArray.size = q at h4
  have : q = 0 ∨ q = 1 ∨ q = 2 ∨ q = 3 := by omega
  rcases this with rfl | rfl | rfl | rfl <;> rfl

theorem zeroValue_term (w : World) : (zeroValue 24).run Tryz.prog w = .ok (.agg zero4.toArray) w := by kernel_rfl

theorem run_clear4 (w : World) (ty : TypeId) (g o n c : Nat) (hn : 0 < n) (hc : ∀ j, j < n * 4 → (w.cell? ⟨g, o + j, none⟩).isSome = true) (hf : ∀ j, j < n * 4 → w.frozen? ⟨g, o + j, none⟩ = false) :
    (Builtin.clear_ #[22] ty #[.slice (some ⟨g, o, none⟩) n c]).run Tryz.prog w = .ok (.tuple #[]) (w.setCells g o (zeros4 n)) := by
  have hst := run_storeCells_cells (P := Tryz.prog) g o (zeros4 n) 0 w (by rw [zeros4_length]; simpa using hc) (by rw [zeros4_length]; simpa using hf) (zeros4_one n)
  simp only [Nat.add_zero] at hst
  have hz : ∀ n, (Builtin.zeroCells (Value.agg #[.int .i64 0, .int .i64 0, .string ⟨#[]⟩, .slice none 0 0]).cells n).toList = zeros4 n := fun _ => rfl
  have hzv : ∀ w, (zeroValue 24).run Tryz.prog w = .ok (.agg #[.int .i64 0, .int .i64 0, .string ⟨#[]⟩, .slice none 0 0]) w := zeroValue_term
  obtain ⟨m, rfl⟩ : ∃ m, n = m + 1 := ⟨n - 1, by omega⟩
  simp [Builtin.clear_, run_underlying Tryz.underlying22, hzv, hz, hst]

theorem heap_setCells (b : Nat) : ∀ (vs : List Value) (o : Nat) (w : World) (k : Nat), k ≠ b → (w.setCells b o vs).heap[k]? = w.heap[k]?
  | [], _, _, _, _ => rfl
  | v :: r, o, w, k, h => by rw [World.setCells, heap_setCells b r (o + 1) _ k h, Below.heap_setCell _ _ _ _ (by simpa using h)]

theorem os_setCells (b : Nat) : ∀ (vs : List Value) (o : Nat) (w : World), (w.setCells b o vs).os = w.os ∧ (w.setCells b o vs).tape = w.tape ∧ (w.setCells b o vs).output = w.output ∧ (w.setCells b o vs).heap.size = w.heap.size
  | [], _, _ => ⟨rfl, rfl, rfl, rfl⟩
  | v :: r, o, w => by
    rw [World.setCells]
    have := os_setCells b r (o + 1) (w.setCell ⟨b, o, none⟩ v)
    simpa [World.setCell] using this

theorem Only.setCells {g : Nat} {a w : World} (h : Only g a w) (o : Nat) (vs : List Value) : Only g a (w.setCells g o vs) := by
  obtain ⟨h1, h2, h3, h4⟩ := os_setCells g vs o w
  exact h.trans ⟨h1, h2, h3, by omega, fun k _ hk => heap_setCells g vs o w k hk⟩

theorem RowAt.cut {w : World} {g : Nat} {A B : List Kd} (h : RowAt w g (A ++ B)) (vs : List Value) : RowAt (w.setCells g (A.length * 4) vs) g A := by
  obtain ⟨h1, h2, h3⟩ := h
  obtain ⟨_, _, _, h4⟩ := os_setCells g vs (A.length * 4) w
  refine ⟨by omega, fun j hj => ⟨?_, ?_⟩, fun k hk => ?_⟩
  · rw [World.cell?_setCells_out _ _ _ _ _ (fun _ _ => .inl (by simp; omega)), (h2 j (by simp; omega)).1, rowOf_append, List.getElem?_append_left (by rw [rowOf_length]; omega)]
  · rw [World.frozen?_setCells]; exact (h2 j (by simp; omega)).2
  · have := h3 k (by simp [hk])
    exact ⟨this.1.keep (fun b hb => ⟨by omega, hb.2⟩) (fun b o hb => World.cell?_setCells_out _ _ _ _ _ (fun e => absurd e hb.2)), this.2⟩

set_option maxRecDepth 20000 in
set_option maxHeartbeats 4000000 in
theorem compactFunc_any (w : World) (g cap : Nat) (ks : List Kd) (h : RowAt w g ks) (hsz : ks.length ≤ 100000) (hcap : ks.length ≤ cap) :
    Calls Tryz.prog 77 #[.slice (some ⟨g, 0, none⟩) ks.length cap, .func (.func 78) #[] #[]] w fun e w' =>
      e = .returned (.slice (some ⟨g, 0, none⟩) (keptTo ks ks.length).length cap) ∧ RowAt w' g (keptTo ks ks.length) ∧ Only g w w' := by
  by_cases h2 : ks.length < 2
  · have hkt : keptTo ks ks.length = ks := by
      rw [keptTo_all ks ks.length (Nat.le_refl _) (fun i hi => by simp [keepK, show i = 0 by omega]), List.take_length]
    have Hkt : Hid (keptTo ks ks.length = ks) := hkt
    clear hkt
    go_enter Tryz.func77, Tryz.ntmps77
    go_wp2_with fail
    go_ret
    exact ⟨by rw [Hkt.out]; rfl, by rw [Hkt.out]; exact h, Only.refl _ _⟩
  · go_enter Tryz.func77, Tryz.ntmps77
    go_wp2_with fail
    go_loopw [5] (fun kv wr => ∃ j : Nat, kv = .int .i64 ((j : Int) + 1) ∧ j < ks.length ∧ (∀ i, i ≤ j → keepK ks i = true) ∧ RowAt wr g ks ∧ Below w.heap.size w wr) (fun kv _ => ks.length - (intOf kv).toNat)
    case atStart => exact ⟨0, rfl, by omega, fun i hi => by simp [keepK, show i = 0 by omega], h, Below.refl _ _⟩
    case round =>
      obtain ⟨j, rfl, hj, hkeep, hrow, hbl⟩ := hrel
      have Hkeep : Hid (∀ i, i ≤ j → keepK ks i = true) := hkeep
      clear hkeep
      by_cases hlast : j + 1 < ks.length
      · obtain ⟨e0, e1, e2, e3⟩ := hrow.at (j + 1) hlast
        obtain ⟨d0, d1, d2, d3⟩ := hrow.at j hj
        have hx := hrow.ok (j + 1) hlast
        have hy := hrow.ok j hj
        have HX : Hid (ks.getD (j + 1) kd0 = ks.getD (j + 1) kd0) := rfl
        generalize hx0 : ks.getD (j + 1) kd0 = x at *
        generalize hy0 : ks.getD j kd0 = y at *
        have Hx : Hid (ks.getD (j + 1) kd0 = x) := hx0
        have Hy : Hid (ks.getD j kd0 = y) := hy0
        clear hx0 hy0 HX
        have hg := hrow.1
        have Hrow : Hid (RowAt wr g ks) := hrow
        clear hrow
        go_wp2_with fail
        have ew : IntKind.i64.wrap (j : Int) = (j : Int) := wrap_in _ (by omega) (by omega)
        have hi0 : (0 : Int) ≤ (j : Int) + 1 := by omega
        have hi1 : (j : Int) + 1 < (ks.length : Int) := by omega
        have hi2 : (j : Int) < (ks.length : Int) := by omega
        go_region_held3 (fun w' => w'.cell? ⟨g, (j + 1) * 4, none⟩ = some (.int .i64 x.a.kind) ∧ w'.cell? ⟨g, (j + 1) * 4 + 1, none⟩ = some (.int .i64 x.a.n) ∧ w'.cell? ⟨g, (j + 1) * 4 + 2, none⟩ = some (.string x.a.s) ∧ w'.cell? ⟨g, (j + 1) * 4 + 3, none⟩ = some (.slice x.A (flen x.l) x.cap) ∧ w'.cell? ⟨g, j * 4, none⟩ = some (.int .i64 y.a.kind) ∧ w'.cell? ⟨g, j * 4 + 1, none⟩ = some (.int .i64 y.a.n) ∧ w'.cell? ⟨g, j * 4 + 2, none⟩ = some (.string y.a.s) ∧ w'.cell? ⟨g, j * 4 + 3, none⟩ = some (.slice y.A (flen y.l) y.cap))
          (first | exact ⟨e0, e1, e2, e3, d0, d1, d2, d3⟩ | (refine ⟨?_, ?_, ?_, ?_, ?_, ?_, ?_, ?_⟩ <;> (rw [ho2.cell (by simpa [World.heap_size_drew'] using hg)]; first | exact e0 | exact e1 | exact e2 | exact e3 | exact d0 | exact d1 | exact d2 | exact d3)))
          (first
            | (go_at_call 78; refine (eqK_any x y g _ ?_ ?_).mono ?_; exact (okDrew hx); exact (okDrew hy); rintro e w2 ⟨rfl, ho2⟩))
        have ho3 : Below wr.heap.size wr w2 := (Below.drew (Below.refl _ _)).trans ho2
        have hbw : Below w.heap.size w w2 := hbl.trans (ho3.mono hbl.size)
        have hg2 : g < w2.heap.size := Nat.lt_of_lt_of_le hg ho3.size
        cases hq : (ordK x y == 0)
        · have hkj : keepK ks (j + 1) = true := by
            simp only [keepK, Nat.add_sub_cancel, Hx.out, Hy.out]
            simp at hq ⊢; exact hq
          have Hkj : Hid (keepK ks (j + 1) = true) := hkj
          clear hkj
          go_wp2_with fail
          go_roundw
          case rel => exact ⟨j + 1, by go_num, hlast, fun i hi => by rcases Nat.lt_or_ge i (j + 1) with h | h; exact Hkeep.out i (by omega); rw [show i = j + 1 by omega]; exact Hkj.out, Hrow.out.below ho3, hbw⟩
          case measure => simp [intOf]; omega
        · have hkj : keepK ks (j + 1) = false := by
            simp only [keepK, Nat.add_sub_cancel, Hx.out, Hy.out]
            simp at hq ⊢; exact hq
          have Hkj : Hid (keepK ks (j + 1) = false) := hkj
          clear hkj
          have hst : keptTo ks (j + 1) = ks.take (j + 1) := keptTo_all ks (j + 1) (by omega) (fun i hi => Hkeep.out i (by omega))
          have hst2 : keptTo ks (j + 2) = ks.take (j + 1) := by rw [mixK_same ks (j + 1) Hkj.out, hst]
          have hmix0 : mixK ks (j + 2) = ks := by rw [mixK, hst2, List.length_take, Nat.min_eq_left (by omega), List.take_append_drop]
          have Hst2 : Hid (keptTo ks (j + 2) = ks.take (j + 1)) := hst2
          have Hmix0 : Hid (mixK ks (j + 2) = ks) := hmix0
          clear hst hst2 hmix0
          go_wp2_with fail
          obtain ⟨wo, rfl⟩ : ∃ wo : World, wo = wr := ⟨_, rfl⟩
          go_loopw [5, 7] (fun kv qv wi => ∃ kk q : Nat, kv = .int .i64 (kk : Int) ∧ qv = .int .i64 ((q : Int) + 1) ∧ j + 1 + q < ks.length ∧ kk = (keptTo ks (j + 2 + q)).length ∧ kk ≤ j + 1 + q ∧ RowAt wi g (mixK ks (j + 2 + q)) ∧ Only g w wi) (fun _ qv _ => ks.length - (intOf qv).toNat)
          case atStart =>
            refine ⟨j + 1, 0, by go_num, rfl, by omega, ?_, by omega, ?_, (Only.refl _ _).below hbw⟩
            · rw [Nat.add_zero, Hst2.out, List.length_take]; omega
            · rw [Nat.add_zero, Hmix0.out]; exact Hrow.out.below ho3
          case round =>
            obtain ⟨kk, q, rfl, rfl, hq1, hkk, hkq, hrw, how⟩ := hrel
            have Hkk : Hid (kk = (keptTo ks (j + 2 + q)).length) := hkk
            clear hkk e0 e1 e2 e3 d0 d1 d2 d3 hx hy hi0 hi1 hi2 ew
            have hml := mixK_length ks (j + 2 + q) (by omega)
            have Hml : Hid ((mixK ks (j + 2 + q)).length = ks.length) := hml
            have hgi := hrw.1
            clear hml
            by_cases hq2 : j + 1 + q + 1 < ks.length
            · obtain ⟨e0, e1, e2, e3⟩ := hrw.at (j + 1 + q + 1) (by rw [Hml.out]; exact hq2)
              obtain ⟨d0, d1, d2, d3⟩ := hrw.at (j + 1 + q) (by rw [Hml.out]; exact hq1)
              have hx := hrw.ok (j + 1 + q + 1) (by rw [Hml.out]; exact hq2)
              have hy := hrw.ok (j + 1 + q) (by rw [Hml.out]; exact hq1)
              rw [mixK_get ks _ _ (by rw [← Hkk.out]; omega)] at e0 e1 e2 e3 d0 d1 d2 d3 hx hy
              have hP : j + 1 + q + 1 = j + 2 + q := by omega
              rw [hP] at e0 e1 e2 e3 hx
              have hkeepP : keepK ks (j + 2 + q) = (ordK (ks.getD (j + 2 + q) kd0) (ks.getD (j + 1 + q) kd0) != 0) := by
                rw [keepK, show j + 2 + q - 1 = j + 1 + q by omega, show ((j + 2 + q == 0) = false) from beq_eq_false_iff_ne.2 (by omega)]; rfl
              have HkP : Hid (keepK ks (j + 2 + q) = (ordK (ks.getD (j + 2 + q) kd0) (ks.getD (j + 1 + q) kd0) != 0)) := hkeepP
              clear hkeepP
              rw [show (j + 2 + q) * 4 = (j + 1) * 4 + (q + 1) * 4 from by omega] at e0 e1 e2 e3
              rw [show (j + 1 + q) * 4 = (j + 1) * 4 + q * 4 from by omega] at d0 d1 d2 d3
              generalize hx0 : ks.getD (j + 2 + q) kd0 = x' at *
              generalize hy0 : ks.getD (j + 1 + q) kd0 = y' at *
              have Hx' : Hid (ks.getD (j + 2 + q) kd0 = x') := hx0
              clear hx0 hy0 hP
              have ew : IntKind.i64.wrap (q : Int) = (q : Int) := wrap_in _ (by omega) (by omega)
              have hi0 : (0 : Int) ≤ (q : Int) + 1 := by omega
              have hi1 : (q : Int) + 1 < ((ks.length - (j + 1) : Nat) : Int) := by omega
              have hi2 : (q : Int) < ((ks.length - (j + 1) : Nat) : Int) := by omega
              have Hrw : Hid (RowAt wr g (mixK ks (j + 2 + q))) := hrw
              clear hrw
              go_wp2_with fail
              go_region_held3 (fun w' => w'.cell? ⟨g, (j + 1) * 4 + (q + 1) * 4, none⟩ = some (.int .i64 x'.a.kind) ∧ w'.cell? ⟨g, (j + 1) * 4 + (q + 1) * 4 + 1, none⟩ = some (.int .i64 x'.a.n) ∧ w'.cell? ⟨g, (j + 1) * 4 + (q + 1) * 4 + 2, none⟩ = some (.string x'.a.s) ∧ w'.cell? ⟨g, (j + 1) * 4 + (q + 1) * 4 + 3, none⟩ = some (.slice x'.A (flen x'.l) x'.cap) ∧
                  w'.cell? ⟨g, (j + 1) * 4 + q * 4, none⟩ = some (.int .i64 y'.a.kind) ∧ w'.cell? ⟨g, (j + 1) * 4 + q * 4 + 1, none⟩ = some (.int .i64 y'.a.n) ∧ w'.cell? ⟨g, (j + 1) * 4 + q * 4 + 2, none⟩ = some (.string y'.a.s) ∧ w'.cell? ⟨g, (j + 1) * 4 + q * 4 + 3, none⟩ = some (.slice y'.A (flen y'.l) y'.cap))
                (first | exact ⟨e0, e1, e2, e3, d0, d1, d2, d3⟩ | (refine ⟨?_, ?_, ?_, ?_, ?_, ?_, ?_, ?_⟩ <;> (rw [ho4.cell (by simpa [World.heap_size_drew'] using hgi)]; first | exact e0 | exact e1 | exact e2 | exact e3 | exact d0 | exact d1 | exact d2 | exact d3)))
                (first
                  | (go_at_call 78; refine (eqK_any x' y' g _ ?_ ?_).mono ?_; exact (okDrew hx); exact (okDrew hy); rintro e w4 ⟨rfl, ho4⟩))
              have ho5 : Below wr.heap.size wr w4 := (Below.drew (Below.refl _ _)).trans ho4
              have hr4 := Hrw.out.below ho5
              have hg4 := hr4.1
              cases hq' : (ordK x' y' == 0)
              · have hkP : keepK ks (j + 2 + q) = true := by rw [HkP.out]; simp at hq' ⊢; exact hq'
                have HkT : Hid (keepK ks (j + 2 + q) = true) := hkP
                clear hkP
                obtain ⟨z, Bk, hm1, hm2⟩ := mixK_next ks (j + 2 + q) HkT.out (by omega) (by rw [← Hkk.out]; omega)
                have Hm1 : Hid (mixK ks (j + 2 + q) = keptTo ks (j + 2 + q) ++ z :: Bk) := hm1
                have Hm2 : Hid (mixK ks (j + 2 + q + 1) = keptTo ks (j + 2 + q) ++ ks.getD (j + 2 + q) kd0 :: Bk) := hm2
                clear hm1 hm2
                have c0 := (ho5.cell hgi).trans e0
                have c1 := (ho5.cell hgi).trans e1
                have c2 := (ho5.cell hgi).trans e2
                have c3 := (ho5.cell hgi).trans e3
                obtain ⟨s0, s1, s2, s3⟩ := hr4.at kk (by rw [Hml.out]; omega)
                have f0 := (hr4.2.1 (kk * 4) (by rw [Hml.out]; omega)).2
                have f1 := (hr4.2.1 (kk * 4 + 1) (by rw [Hml.out]; omega)).2
                have f2 := (hr4.2.1 (kk * 4 + 2) (by rw [Hml.out]; omega)).2
                have f3 := (hr4.2.1 (kk * 4 + 3) (by rw [Hml.out]; omega)).2
                have hk0 : (kk : Int) < (ks.length : Int) := by omega
                have Hr4 : Hid (RowAt w4 g (mixK ks (j + 2 + q))) := hr4
                clear hr4 e0 e1 e2 e3 d0 d1 d2 d3
                generalize hs0 : (mixK ks (j + 2 + q)).getD kk kd0 = sk at *
                clear hs0
                go_wp2_with fail
                go_roundw
                case rel =>
                  have hr5 := Hr4.out
                  rw [Hm1.out] at hr5
                  have hx5 : x'.Ok w4 (fun b => b < w4.heap.size ∧ b ≠ g) ∧ x'.Ar := ⟨hx.1.keep (fun b hb => ⟨Nat.lt_of_lt_of_le hb.1 ho5.size, hb.2⟩) (fun b o hb => ho5.cell hb.1), hx.2⟩
                  have hput := hr5.put hx5 (kk * 4) (by rw [Hkk.out])
                  refine ⟨kk + 1, q + 1, by go_num, by go_num, by omega, ?_, by omega, ?_, ?_⟩
                  · rw [show j + 2 + (q + 1) = j + 2 + q + 1 by omega, keptTo, HkT.out, if_pos rfl, List.length_append, ← Hkk.out]; rfl
                  · rw [show j + 2 + (q + 1) = j + 2 + q + 1 by omega, Hm2.out, Hx'.out]; exact hput
                  · have h6 := how.below ho5
                    exact Only.setCell (p := ⟨g, kk * 4 + 3, none⟩) (Only.setCell (p := ⟨g, kk * 4 + 2, none⟩) (Only.setCell (p := ⟨g, kk * 4 + 1, none⟩) (Only.setCell (p := ⟨g, kk * 4, none⟩) h6 (.inl rfl) _) (.inl rfl) _) (.inl rfl) _) (.inl rfl) _
                case measure => simp [intOf]; omega
              · have hkP : keepK ks (j + 2 + q) = false := by rw [HkP.out]; simp at hq' ⊢; exact hq'
                have HkT : Hid (keepK ks (j + 2 + q) = false) := hkP
                clear hkP
                go_wp2_with fail
                go_roundw
                case rel =>
                  refine ⟨kk, q + 1, rfl, by go_num, by omega, ?_, by omega, ?_, how.below ho5⟩
                  · rw [show j + 2 + (q + 1) = j + 2 + q + 1 by omega, mixK_same ks _ HkT.out]; exact Hkk.out
                  · rw [show j + 2 + (q + 1) = j + 2 + q + 1 by omega, mixK, mixK_same ks _ HkT.out]; exact hr4
                case measure => simp [intOf]; omega
            · have hd : decide ((q : Int) + 1 < ((ks.length - (j + 1) : Nat) : Int)) = false := by simp; omega
              have hPN : j + 2 + q = ks.length := by omega
              have hkn : (keptTo ks ks.length).length = kk := by rw [← hPN]; exact Hkk.out.symm
              have hrN : RowAt wr g (keptTo ks ks.length ++ ks.drop kk) := by have := hrw; rw [hPN, mixK, hkn] at this; exact this
              have hcl : ∀ ty, (Builtin.clear_ #[22] ty #[.slice (some ⟨g, kk * 4, none⟩) (ks.length - kk) (cap - kk)]).run Tryz.prog wr = .ok (.tuple #[]) (wr.setCells g (kk * 4) (zeros4 (ks.length - kk))) := fun ty =>
                run_clear4 wr ty g (kk * 4) (ks.length - kk) (cap - kk) (by omega) (fun t ht => by rw [(hrw.2.1 (kk * 4 + t) (by rw [Hml.out]; omega)).1, List.getElem?_eq_getElem (by rw [rowOf_length, Hml.out]; omega)]; rfl) (fun t ht => (hrw.2.1 (kk * 4 + t) (by rw [Hml.out]; omega)).2)
              have Hkn : Hid ((keptTo ks ks.length).length = kk) := hkn
              have HrN : Hid (RowAt wr g (keptTo ks ks.length ++ ks.drop kk)) := hrN
              have hk0 : (kk : Int) ≤ (ks.length : Int) := by omega
              have hk1 : (kk : Int) ≤ (cap : Int) := by omega
              clear hPN hkn hrN hrw
              go_wp2_with fail
              go_ret
              refine ⟨by rw [Hkn.out]; rfl, ?_, how.setCells _ _⟩
              have := HrN.out.cut (zeros4 (ks.length - kk))
              rw [Hkn.out] at this; exact this
      · have hd : decide ((j : Int) + 1 < (ks.length : Int)) = false := by simp; omega
        have hkt : keptTo ks ks.length = ks := by
          rw [keptTo_all ks ks.length (Nat.le_refl _) (fun i hi => Hkeep.out i (by omega)), List.take_length]
        have Hkt : Hid (keptTo ks ks.length = ks) := hkt
        clear hkt
        go_wp2_with fail
        go_ret
        exact ⟨by rw [Hkt.out]; rfl, by rw [Hkt.out]; exact hrow, (Only.refl _ _).below hbl⟩

end Go.Proofs.YtgmmbfnmojjbkaaGreatDoor

namespace Go.Proofs.YtgmmbfnmojjbkaaGreatDoor
open Go.RowKit
set_option linter.unusedVariables false
set_option linter.unusedSimpArgs false

theorem tri_ordK (i j k : Kd) : Tri (ordK i j) (ordK j k) (ordK i k) := tri_ordT _ _ _ _ _ _
theorem neg_ordK (i j : Kd) : ordK j i = - ordK i j := neg_ordT _ _ _ _
theorem ordK_self (k : Kd) : ordK k k = 0 := ordT_self _ _

/-- L rises, is of ks, and has each of them. -/
def SortOf (ks L : List Kd) : Prop := L.Pairwise (fun j k => ordK j k < 0) ∧ (∀ y ∈ L, y ∈ ks) ∧ ∀ x ∈ ks, ∃ y ∈ L, ordK x y = 0

theorem getD_mem {ks : List Kd} {i : Nat} (h : i < ks.length) : ks.getD i kd0 ∈ ks := by simp [List.getD, List.getElem?_eq_getElem h]

theorem kept_sort (ks : List Kd) (hs : ks.Pairwise (fun j k => 0 ≤ ordK k j)) : ∀ m, m ≤ ks.length →
    (keptTo ks m).Pairwise (fun j k => ordK j k < 0) ∧ (∀ y ∈ keptTo ks m, ∃ i, i < m ∧ y = ks.getD i kd0) ∧ ∀ i, i < m → ∃ y ∈ keptTo ks m, ordK (ks.getD i kd0) y = 0
  | 0, _ => ⟨List.Pairwise.nil, by simp [keptTo], by omega⟩
  | m + 1, hm => by
    obtain ⟨h1, h2, h3⟩ := kept_sort ks hs m (by omega)
    have hle : ∀ i j, i < j → j < ks.length → ordK (ks.getD i kd0) (ks.getD j kd0) ≤ 0 := fun i j hij hj => by
      have := (List.pairwise_iff_getElem.1 hs) i j (by omega) hj hij
      rw [neg_ordK] at this
      have e1 : ks.getD i kd0 = ks[i] := by simp [List.getD, List.getElem?_eq_getElem (show i < ks.length by omega)]
      have e2 : ks.getD j kd0 = ks[j] := by simp [List.getD, List.getElem?_eq_getElem hj]
      rw [e1, e2]; omega
    rw [keptTo]
    cases hk : keepK ks m
    · simp only [Bool.false_eq_true, if_false, List.append_nil]
      refine ⟨h1, fun y hy => ?_, fun i hi => ?_⟩
      · obtain ⟨i, hi, e⟩ := h2 y hy; exact ⟨i, by omega, e⟩
      · rcases Nat.lt_or_ge i m with h | h
        · exact h3 i h
        · have him : i = m := by omega
          subst him
          unfold keepK at hk
          simp only [Bool.or_eq_false_iff, beq_eq_false_iff_ne, bne_eq_false_iff_eq] at hk
          obtain ⟨y, hy, e⟩ := h3 (i - 1) (by omega)
          have t := tri_ordK (ks.getD i kd0) (ks.getD (i - 1) kd0) y
          exact ⟨y, hy, by have := hk.2; unfold Tri at t; omega⟩
    · simp only [if_true]
      have hlast : ∀ y ∈ keptTo ks m, ordK y (ks.getD m kd0) < 0 := fun y hy => by
        obtain ⟨i, hi, rfl⟩ := h2 y hy
        unfold keepK at hk
        simp only [Bool.or_eq_true, beq_iff_eq, bne_iff_ne] at hk
        rcases hk with hk | hk
        · omega
        · have hk2 := hle (m - 1) m (by omega) (by omega)
          rw [neg_ordK] at hk
          rcases Nat.lt_or_ge i (m - 1) with h | h
          · have hi2 := hle i (m - 1) h (by omega)
            have t := tri_ordK (ks.getD i kd0) (ks.getD (m - 1) kd0) (ks.getD m kd0)
            unfold Tri at t; omega
          · have : i = m - 1 := by omega
            rw [this]; omega
      refine ⟨?_, fun y hy => ?_, fun i hi => ?_⟩
      · rw [List.pairwise_append]
        exact ⟨h1, by simp, fun x hx y hy => by simp at hy; subst hy; simpa using hlast x hx⟩
      · rcases List.mem_append.1 hy with hy | hy
        · obtain ⟨i, hi, e⟩ := h2 y hy; exact ⟨i, by omega, e⟩
        · simp at hy; exact ⟨m, by omega, by simpa using hy⟩
      · rcases Nat.lt_or_ge i m with h | h
        · obtain ⟨y, hy, e⟩ := h3 i h; exact ⟨y, by simp [hy], e⟩
        · have him : i = m := by omega
          subst him
          exact ⟨ks.getD i kd0, by simp, ordK_self _⟩

theorem sortOf_kept {ks js : List Kd} (hp : js.Perm ks) (hs : js.Pairwise (fun j k => 0 ≤ ordK k j)) : SortOf ks (keptTo js js.length) := by
  obtain ⟨h1, h2, h3⟩ := kept_sort js hs js.length (Nat.le_refl _)
  refine ⟨h1, fun y hy => ?_, fun x hx => ?_⟩
  · obtain ⟨i, hi, rfl⟩ := h2 y hy; exact hp.subset (getD_mem hi)
  · obtain ⟨i, hi, e⟩ := List.getElem_of_mem (hp.symm.subset hx)
    obtain ⟨y, hy, e2⟩ := h3 i hi
    refine ⟨y, hy, ?_⟩
    rw [← e2]; congr 1; simp [List.getD, List.getElem?_eq_getElem hi, e]

/-- Two that rise and have each other's are one by one the same. -/
theorem sortOf_unique : ∀ (L M : List Kd), L.Pairwise (fun j k => ordK j k < 0) → M.Pairwise (fun j k => ordK j k < 0) → (∀ x ∈ L, ∃ y ∈ M, ordK x y = 0) → (∀ y ∈ M, ∃ x ∈ L, ordK y x = 0) →
    L.length = M.length ∧ ∀ i, i < L.length → ordK (L.getD i kd0) (M.getD i kd0) = 0
  | [], [], _, _, _, _ => ⟨rfl, by simp⟩
  | [], m :: M, _, _, _, h => by obtain ⟨x, hx, _⟩ := h m (by simp); simp at hx
  | l :: L, [], _, _, h, _ => by obtain ⟨x, hx, _⟩ := h l (by simp); simp at hx
  | l :: L, m :: M, hL, hM, h1, h2 => by
    rw [List.pairwise_cons] at hL hM
    have e0 : ordK l m = 0 := by
      obtain ⟨y, hy, e⟩ := h1 l (by simp)
      obtain ⟨x, hx, e'⟩ := h2 m (by simp)
      rcases List.mem_cons.1 hy with rfl | hy
      · exact e
      · rcases List.mem_cons.1 hx with rfl | hx
        · rw [neg_ordK, e']; rfl
        · have a := hM.1 y hy
          have b := hL.1 x hx
          have t1 := tri_ordK m y l
          have t2 := tri_ordK l x m
          have n1 := neg_ordK l y
          have n2 := neg_ordK l m
          have n3 := neg_ordK m x
          unfold Tri at t1 t2; omega
    have hx1 : ∀ x ∈ L, ∃ y ∈ M, ordK x y = 0 := fun x hx => by
      obtain ⟨y, hy, e⟩ := h1 x (by simp [hx])
      rcases List.mem_cons.1 hy with rfl | hy
      · have a := hL.1 x hx
        have t := tri_ordK l x y
        unfold Tri at t; omega
      · exact ⟨y, hy, e⟩
    have hx2 : ∀ y ∈ M, ∃ x ∈ L, ordK y x = 0 := fun y hy => by
      obtain ⟨x, hx, e⟩ := h2 y (by simp [hy])
      rcases List.mem_cons.1 hx with rfl | hx
      · have a := hM.1 y hy
        have t := tri_ordK m y x
        have n2 := neg_ordK x m
        unfold Tri at t; omega
      · exact ⟨x, hx, e⟩
    obtain ⟨r1, r2⟩ := sortOf_unique L M hL.2 hM.2 hx1 hx2
    refine ⟨by simp [r1], fun i hi => ?_⟩
    cases i with
    | zero => simpa using e0
    | succ i => simpa using r2 i (by simpa using hi)

end Go.Proofs.YtgmmbfnmojjbkaaGreatDoor

namespace Go.Proofs.YtgmmbfnmojjbkaaGreatDoor
open Go.RowKit Go.Sort Go.Shelf
set_option linter.unusedVariables false
set_option linter.unusedSimpArgs false

theorem kd0_ok (w : World) (S : Nat → Prop) : (⟨0, 0, ⟨2, 0, ByteArray.empty⟩, .nil, none, 0, 0, 0⟩ : Kd).Ok w S ∧ (⟨0, 0, ⟨2, 0, ByteArray.empty⟩, .nil, none, 0, 0, 0⟩ : Kd).Ar :=
  ⟨⟨⟨by simp, by simp, by simp, by simp, by decide⟩, ⟨Nat.zero_le _, Nat.zero_le _⟩, .inl rfl, trivial⟩, by decide, trivial⟩

set_option maxHeartbeats 1000000 in
theorem sortFunc_none (w : World) (g cap : Nat) (hg : g < w.heap.size) :
    Calls Tryz.prog 75 #[.slice (some ⟨g, 0, none⟩) 0 cap, .func (.func 76) #[] #[]] w fun e w' =>
      e = .returned (.tuple #[]) ∧ Only g w w' := by
  have hH : HoldsK (fun _ : Unit => (⟨0, 0, ⟨2, 0, ByteArray.empty⟩, .nil, none, 0, 0, 0⟩ : Kd).cells) 4 w g 0 #[] := by intro j hj; simp at hj
  have hcmp := cmp_row (fun _ : Unit => (⟨0, 0, ⟨2, 0, ByteArray.empty⟩, .nil, none, 0, 0, 0⟩ : Kd)) w g 0 hg (fun _ => kd0_ok _ _)
  have h := AnyQ.slices_SortFunc (ρ := Tryz.sortK_ren) Tryz.sortK 4 isAgg_term sizeOf_term (fun _ : Unit => (⟨0, 0, ⟨2, 0, ByteArray.empty⟩, .nil, none, 0, 0, 0⟩ : Kd).cells) (fun _ => rfl) (fun x v hv => by simp [Kd.cells] at hv; rcases hv with rfl | rfl | rfl | rfl <;> rfl)
    (fun x y => ordK (⟨0, 0, ⟨2, 0, ByteArray.empty⟩, .nil, none, 0, 0, 0⟩ : Kd) (⟨0, 0, ⟨2, 0, ByteArray.empty⟩, .nil, none, 0, 0, 0⟩ : Kd)) (swo_ord (fun _ : Unit => (⟨0, 0, ⟨2, 0, ByteArray.empty⟩, .nil, none, 0, 0, 0⟩ : Kd))) 76 #[] g 0 cap #[] w
    (enters_of Tryz.func76 (by kernel_rfl) rfl) hcmp hH hg (by simp)
  refine Calls.mono h ?_
  rintro e w' ⟨rfl, d', m, os, _, _, hw⟩
  refine ⟨rfl, ?_⟩
  rw [hw]
  refine ⟨rfl, rfl, rfl, by simp [sortWorldK, putRowK, Sort.putRow, Sort.mapBlock, Sort.ahead], fun k hk' hne => ?_⟩
  unfold sortWorldK
  rw [Sort.heap_grow_old _ _ (by simpa [putRowK, Sort.putRow, Sort.mapBlock, Sort.ahead] using hk')]
  simp [putRowK, Sort.putRow, Sort.mapBlock, Sort.ahead, Array.getElem?_modify, Ne.symm hne]

theorem sortFunc_all (w : World) (g cap : Nat) (ks : List Kd) (h : RowAt w g ks) (hsz : ks.length < 4611686018427387904) :
    Calls Tryz.prog 75 #[.slice (some ⟨g, 0, none⟩) ks.length cap, .func (.func 76) #[] #[]] w fun e w' =>
      e = .returned (.tuple #[]) ∧ ∃ js : List Kd, js.Perm ks ∧ js.Pairwise (fun j k => 0 ≤ ordK k j) ∧ RowAt w' g js ∧ Only g w w' := by
  cases ks with
  | nil =>
    refine (sortFunc_none w g cap h.1).mono ?_
    rintro e w' ⟨rfl, ho⟩
    exact ⟨rfl, [], List.Perm.refl _, List.Pairwise.nil, ⟨Nat.lt_of_lt_of_le h.1 ho.size, by simp, by simp⟩, ho⟩
  | cons k r => exact sortFunc_any w g cap (k :: r) h (by simp) hsz

/-- All terms of a row are terms. -/
def MayF (f : Fo) : Prop := AllF (fun a l => may a l = true) f

/-- The same terms, wherever they lie. -/
def sameK (j k : Kd) : Prop := j.x = k.x ∧ j.y = k.y ∧ j.a = k.a ∧ j.l = k.l

set_option maxRecDepth 20000 in
set_option maxHeartbeats 4000000 in
theorem sort_any (w : World) (f : Fo) (LA : Option Addr) (cap lb lo B : Nat) (hB : B ≤ w.heap.size) (hA : flen f = 0 ∨ LA = some ⟨lb, lo, none⟩) (hr : RepF w B f lb lo) (hn : flen f ≤ 100000) (hm : MayF f) :
    Calls Tryz.prog 58 #[.slice LA (flen f) cap] w fun e w' =>
      ∃ (ks L M : List Kd) (g c : Nat), f = foOf ks .nil ∧ SortOf ks L ∧ M.length = L.length ∧ (∀ t, sameK (M.getD t kd0) (L.getD t kd0)) ∧ e = .returned (.slice (some ⟨g, 0, none⟩) M.length c) ∧ RowAt w' g M ∧ w.heap.size ≤ g ∧ Below w.heap.size w w' := by
  have HA : Hid (flen f = 0 ∨ LA = some ⟨lb, lo, none⟩) := hA
  clear hA
  obtain ⟨i, hi, hz0, hz1, hz2⟩ := info_get Tryz.infoTerm
  go_enter Tryz.func58, Tryz.ntmps58
  go_wp2_with (at_make; refine wpList_make_own _ rfl _ _ 22 rfl w.heap.size 24 i (.agg #[.int .i64 0, .int .i64 0, .string ⟨#[]⟩, .slice none 0 0]) 4 Tryz.underlying22 hi hz0 hz1 _ _ _ (flen f) rfl rfl (by omega) ?b2 ?b3 (Nat.le_refl _) ?_)
  case b2 => rw [hz2]; omega
  case b3 => unfold maxLen; omega
  intro w0 hown0 hgrow0
  have hbl0 : Below w.heap.size w w0 := Below.grown (Below.refl _ _) hgrow0 (Nat.le_refl _) (fun k hk => by cases hk)
  clear hgrow0
  go_wp2_with fail
  go_loopw [3, 12] (fun kv iv wr => ∃ (n : Nat) (g : Fo) (ks : List Kd) (gb c : Nat), iv = .int .i64 n ∧ kv = .slice (some ⟨gb, 0, none⟩) n c ∧ n + flen g = flen f ∧ n = ks.length ∧ f = foOf ks g ∧ MayF g ∧ RepF wr B g lb (lo + n * 4) ∧ Below w.heap.size w wr ∧
      wr.ownsRow w.heap.size 24 4 (.slice (some ⟨gb, 0, none⟩) n c) n (rowOf ks) ∧ ∀ k ∈ ks, k.Ok wr (fun b => b < B) ∧ k.Ar) (fun _ iv _ => flen f - (intOf iv).toNat)
  case atStart =>
    refine ⟨0, f, [], w.heap.size, flen f, rfl, rfl, by simp, rfl, rfl, hm, ?_, hbl0, hown0, by simp⟩
    rw [show lo + 0 * 4 = lo from by omega]
    exact hr.below (hbl0.mono hB)
  case round =>
    obtain ⟨n, g, ks, gb, c, rfl, rfl, hng, hnk, hf, hmg, hrg, hbl, hown, hks⟩ := hrel
    have Hf : Hid (f = foOf ks g) := hf
    have Hnk : Hid (n = ks.length) := hnk
    clear hf hnk hown0 hbl0
    have hvk := hown.lt gb rfl
    cases g with
    | nil =>
      simp only [flen] at hng
      have hcap : n ≤ c := by rcases hown.2 with ⟨h1, _⟩ | ⟨g', c', cur, h1, h2, h3, h4, _⟩; cases h1; injection h1 with h5 h6 h7; omega
      have hrow : RowAt wr gb ks := by
        refine ⟨hvk.2, fun t ht => ⟨hown.cellAt t (by have := Hnk.out; omega), hown.frozenAt t⟩, fun k hk => ⟨(hks k hk).1.keep (fun b hb => ⟨by have := hbl.size; omega, by omega⟩) (fun _ _ _ => rfl), (hks k hk).2⟩⟩
      obtain rfl := Hnk.out
      clear Hnk hown hks hrg hmg
      have Hrow : Hid (RowAt wr gb ks) := hrow
      clear hrow
      go_wp2_with fail
      refine (sortFunc_all wr gb c ks Hrow.out (by omega)).mono ?_
      rintro e w1 ⟨rfl, js, hperm, hsorted, hrow1, ho1⟩
      have hjl : js.length = ks.length := hperm.length_eq
      have Hj : Hid (js.Perm ks ∧ js.Pairwise (fun j k => 0 ≤ ordK k j) ∧ RowAt w1 gb js ∧ js.length = ks.length) := ⟨hperm, hsorted, hrow1, hjl⟩
      clear hperm hsorted hrow1
      rw [← hjl]
      clear hjl
      go_wp2_with fail
      have hJ := Hj.out
      refine (compactFunc_any w1 gb c js hJ.2.2.1 (by omega) (by omega)).mono ?_
      clear hJ
      rintro e w2 ⟨rfl, hrow2, ho2⟩
      have hso : SortOf ks (keptTo js js.length) := sortOf_kept Hj.out.1 Hj.out.2.1
      have hLl : (keptTo js js.length).length ≤ 100000 := by have := keptTo_le js js.length; have := Hj.out.2.2.2; omega
      generalize keptTo js js.length = L at *
      have Hso : Hid (SortOf ks L) := hso
      have hO2 : Only gb wr w2 := ho1.trans ho2
      clear hso ho1 ho2
      go_wp2_with fail
      obtain ⟨wo, rfl⟩ : ∃ wo : World, wo = wr := ⟨_, rfl⟩
      go_loopw [29] (fun iv wr => ∃ (m : Nat) (M : List Kd), iv = .int .i64 m ∧ m ≤ L.length ∧ M.length = L.length ∧ (∀ t, sameK (M.getD t kd0) (L.getD t kd0)) ∧ RowAt wr gb M ∧ Only gb wo wr) (fun iv _ => L.length - (intOf iv).toNat)
      case atStart => exact ⟨0, L, rfl, by omega, rfl, fun t => ⟨rfl, rfl, rfl, rfl⟩, hrow2, hO2⟩
      case round =>
        obtain ⟨m, M, rfl, hmL, hML, hsame, hrowM, hoM⟩ := hrel
        have HML : Hid (M.length = L.length) := hML
        clear hML
        by_cases hlt : m < L.length
        · obtain ⟨e0, e1, e2, e3⟩ := hrowM.at m (by rw [HML.out]; exact hlt)
          have hok := hrowM.ok m (by rw [HML.out]; exact hlt)
          have hgM := hrowM.1
          have Hrow3 : Hid (RowAt wr gb M) := hrowM
          have hsm := hsame m
          have Hsame : Hid (∀ t, sameK (M.getD t kd0) (L.getD t kd0)) := hsame
          clear hrowM hsame
          generalize hx0 : M.getD m kd0 = x at *
          have Hx : Hid (M.getD m kd0 = x) := hx0
          clear hx0
          have hi1 : (m : Int) < (L.length : Int) := by omega
          go_wp2_with fail
          refine (fresh_any x.a x.l _ wr.heap.size wr ⟨hok.1.1, _, _, _, _, rfl, hok.1.2.1, hok.1.2.2.1, RepG.toF (fun _ h => h.1) hok.1.2.2.2⟩ (Nat.le_refl _) hok.2.1 hok.2.2).mono ?_
          rintro e w3 ⟨u, rfl, ho3, hfa, A3, cap3, b3, o3, rfl, hn3, hA3, hl3⟩
          have HA3 : Hid (flen x.l = 0 ∨ A3 = some ⟨b3, o3, none⟩) := hA3
          clear hA3
          have hr3 := Hrow3.out.below ho3
          obtain ⟨s0, s1, s2, s3⟩ := hr3.at m (by rw [HML.out]; exact hlt)
          have f0 := (hr3.2.1 (m * 4) (by rw [HML.out]; omega)).2
          have f1 := (hr3.2.1 (m * 4 + 1) (by rw [HML.out]; omega)).2
          have f2 := (hr3.2.1 (m * 4 + 2) (by rw [HML.out]; omega)).2
          have f3 := (hr3.2.1 (m * 4 + 3) (by rw [HML.out]; omega)).2
          have Hr3 : Hid (RowAt w3 gb M) := hr3
          clear hr3
          rw [Hx.out] at s0 s1 s2 s3
          go_wp2_with fail
          go_roundw
          case rel =>
            have hml : m < M.length := by rw [HML.out]; exact hlt
            have hsplit : M = M.take m ++ M[m] :: M.drop (m + 1) := by rw [← List.drop_eq_getElem_cons hml, List.take_append_drop]
            have hr4 := Hr3.out
            rw [hsplit] at hr4
            have hput := hr4.put (x := ⟨x.x, x.y, x.a, x.l, A3, cap3, b3, o3⟩) ⟨⟨hfa, hn3, HA3.out, RepG.keep (fun b hb => ⟨hb.2, by omega⟩) (fun _ _ _ => rfl) hl3⟩, hok.2⟩ (m * 4) (by rw [List.length_take, Nat.min_eq_left (by omega)])
            refine ⟨m + 1, M.take m ++ ⟨x.x, x.y, x.a, x.l, A3, cap3, b3, o3⟩ :: M.drop (m + 1), by go_num, hlt, ?_, ?_, hput, ?_⟩
            · rw [← HML.out]; simp; omega
            · intro t
              have := Hsame.out t
              by_cases ht : t = m
              · subst ht
                rw [Hx.out] at this
                have e : (M.take t ++ (⟨x.x, x.y, x.a, x.l, A3, cap3, b3, o3⟩ : Kd) :: M.drop (t + 1)).getD t kd0 = ⟨x.x, x.y, x.a, x.l, A3, cap3, b3, o3⟩ := by
                  rw [List.getD_eq_getElem?_getD, List.getElem?_append_right (by simp; omega), List.length_take, Nat.min_eq_left (by omega)]; simp
                rw [e]; exact this
              · have e : (M.take m ++ (⟨x.x, x.y, x.a, x.l, A3, cap3, b3, o3⟩ : Kd) :: M.drop (m + 1)).getD t kd0 = M.getD t kd0 := by
                  rw [List.getD_eq_getElem?_getD, List.getD_eq_getElem?_getD]
                  congr 1
                  rcases Nat.lt_or_ge t m with h | h
                  · rw [List.getElem?_append_left (by simp; omega), List.getElem?_take_of_lt h]
                  · rw [List.getElem?_append_right (by simp; omega), List.length_take, Nat.min_eq_left (by omega), show t - m = (t - m - 1) + 1 from by omega, List.getElem?_cons_succ, List.getElem?_drop, show m + 1 + (t - m - 1) = t from by omega]
                rw [e]; exact this
            · exact Only.setCell (p := ⟨gb, m * 4 + 3, none⟩) (Only.setCell (p := ⟨gb, m * 4 + 2, none⟩) (Only.setCell (p := ⟨gb, m * 4 + 1, none⟩) (Only.setCell (p := ⟨gb, m * 4, none⟩) (hoM.below ho3) (.inl rfl) _) (.inl rfl) _) (.inl rfl) _) (.inl rfl) _
          case measure => simp [intOf]; omega
        · have hd : decide ((m : Int) < (L.length : Int)) = false := by simp; omega
          have Hsame : Hid (∀ t, sameK (M.getD t kd0) (L.getD t kd0)) := hsame
          clear hsame
          go_wp2_with fail
          go_ret
          exact ⟨ks, L, M, gb, c, Hf.out, Hso.out, HML.out, Hsame.out, by rw [HML.out]; rfl, hrowM, hvk.1, hbl.trans (hoM.toBelow hvk.1 hbl.size)⟩
    | node b1 o1 a1 l1 r1 =>
      obtain ⟨hb1, hf1, e0, e1, e2, ⟨A1, cap1, b2, o2, e3, hn1, hA1, hl1⟩, hr1⟩ := hrg
      obtain ⟨hm1, hmr⟩ := hmg
      simp only [flen] at hng
      obtain rfl : LA = some ⟨lb, lo, none⟩ := by rcases HA.out with h | h; omega; exact h
      have HA1 : Hid (flen l1 = 0 ∨ A1 = some ⟨b2, o2, none⟩) := hA1
      have Hm1 : Hid (may a1 l1 = true) := hm1
      clear hA1
      have hzB : B ≤ wr.heap.size := by have := hbl.size; omega
      go_wp2_with fail
      refine (may_any a1 l1 _ _ ⟨hf1, A1, cap1, b2, o2, rfl, hn1, HA1.out, RepF.keep (w := wr) (by simp; omega) (fun b' o' hb' => World.cell?_alloc_past _ _ _ (by omega)) hl1⟩).mono ?_
      rintro e w1 ⟨rfl, ho1⟩
      obtain ⟨x0, x1, x2, x3, x4⟩ : Box4 w1 wr.heap.size (.int .i64 a1.kind) (.int .i64 a1.n) (.string a1.s) (.slice A1 (flen l1) cap1) := (Box4.new wr _ _ _ _ _).below ho1
      have hbr : Below wr.heap.size wr w1 := Below.trans (Below.alloc (Below.refl _ _) (Nat.le_refl _) _) (ho1.mono (by simp))
      have hown1 := owns_below hown hbr
      have hbw1 := hbl.size
      go_wp2_with (at_builtin; refine wpList_append_lies _ rfl _ _ 22 rfl w.heap.size 24 i (.agg #[.int .i64 0, .int .i64 0, .string ⟨#[]⟩, .slice none 0 0]) 4 56 Tryz.underlying22 hi hz0 hz1 hz2 rfl (by decide) (.slice (some ⟨gb, 0, none⟩) n c) n (rowOf ks) rfl ?own ⟨w1.heap.size, 0, none⟩ 1 1 [.int .i64 a1.kind, .int .i64 a1.n, .string a1.s, .slice A1 (flen l1) cap1] rfl rfl ?c1 ?c2 (by decide) ?c3 ?c4 ?c5 _ rfl ?_)
      case own => exact hown1.alloc _
      case c1 =>
        intro j u hj
        have hj4 : j = 0 ∨ j = 1 ∨ j = 2 ∨ j = 3 := by have := (List.getElem?_eq_some_iff.1 hj).1; simp at this; omega
        rcases hj4 with rfl | rfl | rfl | rfl <;> (simp at hj; subst hj; simp [Addr.add, go_sem])
      case c2 => intro u hu; simp at hu; rcases hu with rfl | rfl | rfl | rfl <;> rfl
      case c3 => unfold maxLen; omega
      case c4 => omega
      case c5 => have := hbr.size; simp; omega
      intro g2 cap4 w2 hown2 hgrow hat hlt
      go_wp2_with fail
      go_roundw
      case rel =>
        have hb1s := hbr.size
        have hg1s := hgrow.size
        simp only [World.heap_size_alloc'] at hg1s hat
        have hstep : ∀ q, q < w.heap.size → w2.heap[q]? = wr.heap[q]? := fun q hq => by
          rw [hgrow.block q (by simp; omega) (fun e => by simp [Value.ownBlock] at e; omega), Below.heap_alloc _ _ _ (by omega)]; exact hbr.block q (by omega)
        refine ⟨n + 1, r1, ks ++ [⟨b1, o1, a1, l1, A1, cap1, b2, o2⟩], g2, cap4, by go_num, rfl, by omega, by rw [List.length_append]; have := Hnk.out; simp; omega, by rw [foOf_append]; exact Hf.out, hmr, ?_, ?_, by rw [rowOf_append]; exact hown2, ?_⟩
        · rw [show lo + (n + 1) * 4 = lo + n * 4 + 4 from by omega]
          exact RepF.keep (Nat.le_refl _) (fun q j hq => World.cell?_of_block (hstep q (by omega))) hr1
        · exact hbl.trans ⟨hgrow.os.trans hbr.os, hgrow.tape.trans hbr.tape, hgrow.output.trans hbr.output, by omega, fun q hq => hstep q (by omega)⟩
        · intro k hk
          rcases List.mem_append.1 hk with hk | hk
          · exact ⟨(hks k hk).1.keep (fun _ h => h) (fun q j hq => World.cell?_of_block (hstep q (by omega))), (hks k hk).2⟩
          · simp at hk; subst hk
            exact ⟨⟨hf1, hn1, HA1.out, RepG.keep (fun _ h => h) (fun q j hq => World.cell?_of_block (hstep q (by omega))) hl1.toG⟩, may_ar a1 l1 Hm1.out⟩
      case measure => simp [intOf]; omega

end Go.Proofs.YtgmmbfnmojjbkaaGreatDoor
