import Derived.Test.YtldpnhlifgkmiaaDoorR2
import Derived.Test.YtldpnhlifgkmiaaDoorM1
import Derived.Test.YtldpnhlifgkmiaaDoorShelf
namespace Go.Proofs.YtldpnhlifgkmiaaDoor
open Go.RowKit Go.Sort Go.Shelf
set_option linter.unusedVariables false
set_option linter.unusedSimpArgs false

theorem grow_of {w w' : World} (h : Below w.heap.size w w') (hd : w.drawn ≤ w'.drawn) : ∃ q os', w' = Sort.grow (w.drewN q) os' := by
  refine ⟨w'.drawn - w.drawn, w'.heap.extract w.heap.size w'.heap.size, ?_⟩
  have hh : w'.heap = w.heap ++ w'.heap.extract w.heap.size w'.heap.size := by
    apply Array.ext_getElem?
    intro k
    by_cases hk : k < w.heap.size
    · rw [h.block k hk, Array.getElem?_append_left hk]
    · rw [Array.getElem?_append_right (by omega), Array.getElem?_extract]
      by_cases h2 : k < w'.heap.size
      · rw [if_pos (by omega), show w.heap.size + (k - w.heap.size) = k from by omega]
      · rw [if_neg (by omega), Array.getElem?_eq_none (by omega)]
  obtain ⟨heap, tape, drawn, os, output⟩ := w'
  obtain ⟨heap0, tape0, drawn0, os0, output0⟩ := w
  obtain ⟨h1, h2, h3, _, _⟩ := h
  simp only at *
  subst h1 h2 h3
  simp only [Sort.grow, World.drewN]
  rw [← hh, show drawn0 + (drawn - drawn0) = drawn from by omega]

/-- The order of two terms of a row. -/
def ordK (j k : Kd) : Int := ordT j.a j.l k.a k.l

/-- A term of a row is a term. -/
def Kd.Ar (k : Kd) : Prop := (flen k.l : Int) = kidsOf k.a.kind ∧ ArF k.l

theorem lt_ord {α : Type} (f : α → Kd) (x y : α) : ltOf (fun x y => ordK (f x) (f y)) x y = decide (ordT (f x).a (f x).l (f y).a (f y).l < 0) := rfl

theorem swo_ord {α : Type} (f : α → Kd) : Sort.SWO (ltOf fun x y => ordK (f x) (f y)) where
  irrefl := fun x => by rw [lt_ord, ordT_self]; rfl
  trans := fun x y z h1 h2 => by
    have t := tri_ordT (f x).a (f x).l (f y).a (f y).l (f z).a (f z).l
    rw [lt_ord, decide_eq_true_eq] at *
    unfold Tri at t; omega
  ntrans := fun x y z h1 h2 => by
    have t := tri_ordT (f x).a (f x).l (f y).a (f y).l (f z).a (f z).l
    rw [lt_ord, decide_eq_false_iff_not] at *
    unfold Tri at t; omega

theorem isAgg_term (w : World) : (isAgg 29).run Tryd.prog w = .ok true w := by kernel_rfl
theorem sizeOf_term (w : World) : (Go.sizeOf 29).run Tryd.prog w = .ok 4 w := by kernel_rfl

theorem rowOf_get : ∀ (ks : List Kd) (t : Nat), (rowOf ks)[t]? = (ks[t / 4]?).bind fun k => k.cells[t % 4]?
  | [], t => by simp [rowOf]
  | k :: r, t => by
    rw [rowOf]
    by_cases h : t < 4
    · rw [List.getElem?_append_left (by simp [Kd.cells]; omega), Nat.div_eq_of_lt h, Nat.mod_eq_of_lt h]; simp
    · rw [List.getElem?_append_right (by simp [Kd.cells]; omega)]
      have h1 : t / 4 = (t - 4) / 4 + 1 := by omega
      have h2 : t % 4 = (t - 4) % 4 := by omega
      rw [h1, h2, List.getElem?_cons_succ]
      simpa [Kd.cells] using rowOf_get r (t - 4)

theorem flatK_get {α : Type} [Inhabited α] (f : α → Kd) (d : Array α) (t : Nat) (h : t < 4 * d.size) : some ((flatK (fun x => (f x).cells) 4 d)[t]!) = (rowOf (d.toList.map f))[t]? := by
  rw [get_flatK _ _ _ _ (by omega), rowOf_get]
  have h1 : t / 4 < d.size := by omega
  have h2 : t % 4 < 4 := by omega
  simp only [List.getElem?_map, Array.getElem?_toList, Array.getElem?_eq_getElem h1, Option.map_some, Option.bind_some, getElem!_pos d (t / 4) h1]
  have h3 : t % 4 < (f d[t / 4]).cells.length := by simpa [Kd.cells] using h2
  rw [List.getElem?_eq_getElem h3, getElem!_pos (f d[t / 4]).cells (t % 4) h3]

/-- The row lies in block g, its kids elsewhere. -/
def RowAt (w : World) (g : Nat) (ks : List Kd) : Prop :=
  g < w.heap.size ∧ (∀ j, j < 4 * ks.length → w.cell? ⟨g, j, none⟩ = (rowOf ks)[j]? ∧ w.frozen? ⟨g, j, none⟩ = false) ∧ ∀ k ∈ ks, k.Ok w (fun b => b < w.heap.size ∧ b ≠ g) ∧ k.Ar

theorem cmp_row {α : Type} [Inhabited α] (f : α → Kd) (w : World) (g n : Nat) (hg : g < w.heap.size) (hf : ∀ x, (f x).Ok w (fun b => b < w.heap.size ∧ b ≠ g) ∧ (f x).Ar) :
    CmpLays Tryd.prog 45 #[] (fun x => (f x).cells) 4 (fun x y => ordK (f x) (f y)) g 0 n w := by
  intro m os dk hs x y
  have hcell : ∀ b o, b < w.heap.size ∧ b ≠ g → (sortWorldK (fun x => (f x).cells) 4 w g 0 m dk os).cell? ⟨b, o, none⟩ = w.cell? ⟨b, o, none⟩ := fun b o hb => by
    unfold sortWorldK
    rw [Sort.cell?_grow _ _ _ (by simpa [putRowK, Sort.putRow, Sort.mapBlock, Sort.ahead] using hb.1)]
    show (Sort.putRow id _ g 0 _).cell? _ = _
    rw [Sort.cell?_putRow_other _ _ _ _ _ _ (.inl hb.2)]; rfl
  have hsz : w.heap.size ≤ (sortWorldK (fun x => (f x).cells) 4 w g 0 m dk os).heap.size := by simp [sortWorldK, putRowK, Sort.putRow, Sort.mapBlock, Sort.ahead]
  have rep : ∀ z, RepV (sortWorldK (fun x => (f x).cells) 4 w g 0 m dk os) w.heap.size (f z).a (f z).l (.agg #[.int .i64 (f z).a.kind, .int .i64 (f z).a.n, .string (f z).a.s, .slice (f z).A (flen (f z).l) (f z).cap]) := fun z =>
    ⟨(hf z).1.1, _, _, _, _, rfl, (hf z).1.2.1, (hf z).1.2.2.1, RepG.toF (S := fun b => b < w.heap.size) (fun _ h => h) (RepG.keep (fun b hb => hb.1) hcell (hf z).1.2.2.2)⟩
  have h := ordD_any (f x).a (f x).l _ _ (f y).a (f y).l w.heap.size _ (rep x) (rep y) hsz (hf x).2.1 (hf y).2.1 (hf x).2.2 (hf y).2.2
  refine h.mono ?_
  rintro e w' ⟨rfl, hb, hd⟩
  exact ⟨rfl, grow_of hb hd⟩

set_option maxHeartbeats 1000000 in
theorem sortFunc_any (w : World) (g cap : Nat) (ks : List Kd) (h : RowAt w g ks) (hn : 0 < ks.length) (hsz : ks.length < 4611686018427387904) :
    Calls Tryd.prog 44 #[.slice (some ⟨g, 0, none⟩) ks.length cap, .func (.func 45) #[] #[]] w fun e w' =>
      e = .returned (.tuple #[]) ∧ ∃ js : List Kd, js.Perm ks ∧ js.Pairwise (fun j k => 0 ≤ ordK k j) ∧ RowAt w' g js ∧ Only g w w' := by
  obtain ⟨hg, hc, hk⟩ := h
  haveI : Inhabited (Fin ks.length) := ⟨⟨0, hn⟩⟩
  have hfr : (List.finRange ks.length).toArray.toList.map ks.get = ks := List.ext_getElem (by simp) (by intros; simp)
  have hH : HoldsK (fun x => (ks.get x).cells) 4 w g 0 (List.finRange ks.length).toArray := by
    intro j hj
    have hj' : j < 4 * ks.length := by simpa [Nat.mul_comm] using hj
    have e := flatK_get ks.get (List.finRange ks.length).toArray j (by simpa using hj')
    rw [hfr] at e
    refine ⟨?_, by rw [Nat.zero_add]; exact (hc j hj').2⟩
    rw [Nat.zero_add, (hc j hj').1, ← e]; rfl
  have hcmp := cmp_row ks.get w g (List.finRange ks.length).toArray.size hg (fun x => hk _ (List.get_mem _ _))
  have h := AnyQ.slices_SortFunc (ρ := Tryd.sortK_ren) Tryd.sortK 4 isAgg_term sizeOf_term (fun x => (ks.get x).cells) (fun _ => rfl) (fun x v hv => by simp [Kd.cells] at hv; rcases hv with rfl | rfl | rfl | rfl <;> rfl) (fun x y => ordK (ks.get x) (ks.get y)) (swo_ord ks.get) 45 #[] g 0 cap (List.finRange ks.length).toArray w
    (enters_of Tryd.func45 (by kernel_rfl) rfl) hcmp hH hg (by simpa using hsz)
  rw [show (List.finRange ks.length).toArray.size = ks.length from by simp] at h
  refine Calls.mono h ?_
  rintro e w' ⟨rfl, d', m, os, ⟨hp1, hp2, hp3⟩, hso, hw⟩
  have hds : d'.size = ks.length := by rw [hp1]; simp
  refine ⟨rfl, d'.toList.map ks.get, ?_, ?_, ⟨?_, ?_, ?_⟩, ?_⟩
  · have e1 : d'.extract 0 ks.length = d' := Array.ext (by simp [hds]) (by intros; simp)
    have e2 : (List.finRange ks.length).toArray.extract 0 ks.length = (List.finRange ks.length).toArray := Array.ext (by simp) (by intros; simp)
    rw [e1, e2] at hp3
    have := hp3.map ks.get
    rwa [hfr] at this
  · rw [List.pairwise_iff_getElem]
    intro i j hi hj hij
    have h1 : j < d'.size := by simpa using hj
    have h2 : i < d'.size := by omega
    have := hso i j (Nat.zero_le _) hij (by omega)
    rw [lt_ord, decide_eq_false_iff_not, getElem!_pos d' j h1, getElem!_pos d' i h2] at this
    simp only [List.getElem_map, Array.getElem_toList]
    unfold ordK; omega
  · rw [hw]; simp [sortWorldK, putRowK, Sort.putRow, Sort.mapBlock, Sort.ahead]; omega
  · intro t ht
    have ht' : t < 4 * d'.size := by simpa using ht
    have hHw : HoldsK (fun x => (ks.get x).cells) 4 w' g 0 d' := by
      rw [hw]
      exact holdsK_grow _ _ _ _ _ _ _ (by simpa [putRowK, Sort.putRow, Sort.mapBlock, Sort.ahead] using hg) (holdsK_putRowK _ _ (Sort.ahead w m) _ _ _ _ hH (by simpa using hds))
    have h3 := hHw t (by rw [size_flatK]; omega)
    rw [Nat.zero_add] at h3
    exact ⟨by rw [h3.1, ← flatK_get ks.get d' t ht']; rfl, h3.2⟩
  · intro k hk'
    obtain ⟨x, _, rfl⟩ := List.mem_map.1 hk'
    refine ⟨(hk _ (List.get_mem _ _)).1.keep (fun b hb => ⟨?_, hb.2⟩) (fun b o hb => ?_), (hk _ (List.get_mem _ _)).2⟩
    · rw [hw]
      unfold sortWorldK
      rw [Sort.cell?_grow _ _ _ (by simpa [putRowK, Sort.putRow, Sort.mapBlock, Sort.ahead] using hb.1)]
      show (Sort.putRow id _ g 0 _).cell? _ = _
      rw [Sort.cell?_putRow_other _ _ _ _ _ _ (.inl hb.2)]; rfl
    · rw [hw]; simp [sortWorldK, putRowK, Sort.putRow, Sort.mapBlock, Sort.ahead]; omega
  · rw [hw]
    refine ⟨rfl, rfl, rfl, by simp [sortWorldK, putRowK, Sort.putRow, Sort.mapBlock, Sort.ahead], fun k hk' hne => ?_⟩
    unfold sortWorldK
    rw [Sort.heap_grow_old _ _ (by simpa [putRowK, Sort.putRow, Sort.mapBlock, Sort.ahead] using hk')]
    simp [putRowK, Sort.putRow, Sort.mapBlock, Sort.ahead, Array.getElem?_modify, Ne.symm hne]

end Go.Proofs.YtldpnhlifgkmiaaDoor
