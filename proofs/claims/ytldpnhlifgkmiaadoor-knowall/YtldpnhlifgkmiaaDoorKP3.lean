import Derived.Test.YtldpnhlifgkmiaaDoorKP2
import Derived.Test.YtldpnhlifgkmiaaDoorW10
namespace Go.Proofs.YtldpnhlifgkmiaaDoor
open Go.RowKit
set_option linter.unusedVariables false
set_option linter.unusedSimpArgs false

/-- Whether all of a row can be made, of those that p tells. -/
def canF (p : Nd → Fo → Bool) : Fo → Bool
  | .nil => true
  | .node _ _ a l r => (a.kind == 1 || p a l || (!(a.kind == 2) && canF p l)) && canF p r
def canT (p : Nd → Fo → Bool) (a : Nd) (l : Fo) : Bool := a.kind == 1 || p a l || (!(a.kind == 2) && canF p l)
theorem canF_node (p : Nd → Fo → Bool) (x y : Nat) (a : Nd) (l r : Fo) : canF p (.node x y a l r) = (canT p a l && canF p r) := by rw [canF, canT]
/-- The same, said of what holds. -/
def CanF (X : Nd × Fo → Prop) : Fo → Prop
  | .nil => True
  | .node _ _ a l r => (a.kind = 1 ∨ X (nm (a, l)) ∨ (a.kind ≠ 2 ∧ CanF X l)) ∧ CanF X r
def CanT (X : Nd × Fo → Prop) (a : Nd) (l : Fo) : Prop := a.kind = 1 ∨ X (nm (a, l)) ∨ (a.kind ≠ 2 ∧ CanF X l)

theorem CanF_node (X : Nd × Fo → Prop) (x y : Nat) (a : Nd) (l r : Fo) : CanF X (.node x y a l r) ↔ CanT X a l ∧ CanF X r := by rw [CanF, CanT]

theorem canF_iff {p : Nd → Fo → Bool} {X : Nd × Fo → Prop} (h : ∀ a l, may a l = true → (p a l = true ↔ X (nm (a, l)))) : ∀ f : Fo, AMay f → (canF p f = true ↔ CanF X f)
  | .nil, _ => by simp [canF, CanF]
  | .node _ _ a l r, hm => by
    rw [canF, CanF, Bool.and_eq_true, canF_iff h r hm.2.2, Bool.or_eq_true, Bool.or_eq_true, Bool.and_eq_true, h a l hm.1, canF_iff h l hm.2.1]
    simp only [beq_iff_eq, Bool.not_eq_true', beq_eq_false_iff_ne, ne_eq, or_assoc]
theorem canT_iff {p : Nd → Fo → Bool} {X : Nd × Fo → Prop} (h : ∀ a l, may a l = true → (p a l = true ↔ X (nm (a, l)))) {a : Nd} {l : Fo} (hm : may a l = true) : canT p a l = true ↔ CanT X a l := by
  rw [canT, CanT, Bool.or_eq_true, Bool.or_eq_true, Bool.and_eq_true, h a l hm, canF_iff h l (may_amay hm)]
  simp only [beq_iff_eq, Bool.not_eq_true', beq_eq_false_iff_ne, ne_eq, or_assoc]

theorem CanF.mono {X Y : Nd × Fo → Prop} (h : ∀ t, X t → Y t) : ∀ f : Fo, CanF X f → CanF Y f
  | .nil, _ => trivial
  | .node _ _ a l r, hc => by
    rw [CanF] at hc ⊢
    refine ⟨?_, CanF.mono h r hc.2⟩
    rcases hc.1 with h1 | h1 | h1
    · exact .inl h1
    · exact .inr (.inl (h _ h1))
    · exact .inr (.inr ⟨h1.1, CanF.mono h l h1.2⟩)
theorem CanT.mono {X Y : Nd × Fo → Prop} (h : ∀ t, X t → Y t) {a : Nd} {l : Fo} (hc : CanT X a l) : CanT Y a l := by
  rcases hc with h1 | h1 | h1
  · exact .inl h1
  · exact .inr (.inl (h _ h1))
  · exact .inr (.inr ⟨h1.1, CanF.mono h l h1.2⟩)

theorem CanF.norm (X : Nd × Fo → Prop) : ∀ f : Fo, CanF X (norm f) ↔ CanF X f
  | .nil => Iff.rfl
  | .node _ _ a l r => by
    rw [Go.Proofs.YtldpnhlifgkmiaaDoor.norm, CanF, CanF, CanF.norm X l, CanF.norm X r]
    have : nm (a, Go.Proofs.YtldpnhlifgkmiaaDoor.norm l) = nm (a, l) := nm_nm (a, l)
    rw [this]
theorem CanT.nm (X : Nd × Fo → Prop) (t : Nd × Fo) : CanT X (nm t).1 (nm t).2 ↔ CanT X t.1 t.2 := by
  unfold CanT
  rw [show (Go.Proofs.YtldpnhlifgkmiaaDoor.nm t).2 = Go.Proofs.YtldpnhlifgkmiaaDoor.norm t.2 from rfl, CanF.norm, show (Go.Proofs.YtldpnhlifgkmiaaDoor.nm t).1 = t.1 from rfl]
  have : Go.Proofs.YtldpnhlifgkmiaaDoor.nm (t.1, Go.Proofs.YtldpnhlifgkmiaaDoor.norm t.2) = Go.Proofs.YtldpnhlifgkmiaaDoor.nm (t.1, t.2) := nm_nm t
  rw [this]
theorem CanF.mem {X : Nd × Fo → Prop} : ∀ {f : Fo}, CanF X f → ∀ u ∈ kidL f, CanT X u.1 u.2
  | .nil, _, u, hu => by simp [kidL] at hu
  | .node _ _ a l r, h, u, hu => by
    rw [CanF_node] at h
    rw [kidL] at hu
    rcases List.mem_cons.1 hu with rfl | hu
    · exact h.1
    · exact CanF.mem h.2 u hu
theorem CanF.of {X : Nd × Fo → Prop} : ∀ {f : Fo}, (∀ u ∈ kidL f, CanT X u.1 u.2) → CanF X f
  | .nil, _ => trivial
  | .node _ _ a l r, h => (CanF_node X _ _ a l r).2 ⟨h (a, l) (by simp [kidL]), CanF.of (fun u hu => h u (by simp [kidL, hu]))⟩

/-- What can be made of what follows. -/
def Knows (us : List (Nd × Fo)) (a : Nd) (l : Fo) : Prop := CanT (Fol (InL us)) a l

theorem Fol.base {X : Nd × Fo → Prop} {t : Nd × Fo} (h : X t) : Fol X t := fun P _ hx => hx t h
theorem Fol.out {X : Nd × Fo → Prop} {t u : Nd × Fo} (h : Fol X t) (hu : u ∈ outs t) : Fol X u := fun P hP hx => hP t u (h P hP hx) hu
theorem Fol.mono {X Y : Nd × Fo → Prop} (h : ∀ t, X t → Y t) {t : Nd × Fo} (hf : Fol X t) : Fol Y t := fun P hP hx => hf P hP fun t ht => hx t (h t ht)

/-- Of a term that may be only a pair's and a signature's kids come out. -/
theorem outs_kind {t u : Nd × Fo} (hm : may t.1 t.2 = true) (hu : u ∈ outs t) : t.1.kind = 7 ∨ t.1.kind = 6 := by
  unfold outs skipOf at hu
  by_cases h7 : t.1.kind = 7
  · exact .inl h7
  · by_cases h6 : t.1.kind = 6
    · exact .inr h6
    · rw [if_neg h7, if_neg h6] at hu
      have hl := List.length_pos_of_mem hu
      rw [List.length_drop, kidL_length] at hl
      have h2 : kidsOf t.1.kind ≤ 2 := by unfold kidsOf; split; omega; split <;> omega
      have := (may_ar _ _ hm).1
      omega

theorem Knows.grows {us vs : List (Nd × Fo)} (h : ∀ x ∈ us, x ∈ vs) {a : Nd} {l : Fo} (hk : Knows us a l) : Knows vs a l :=
  CanT.mono (fun t => Fol.mono fun t ht => ht.mono h) hk

/-- What follows with one more that could be made can be made. -/
theorem fol_knows {us : List (Nd × Fo)} {u : Nd × Fo} (hus : ∀ x ∈ us, may x.1 x.2 = true) (hu : may u.1 u.2 = true) (hk : Knows us u.1 u.2) {t : Nd × Fo} (ht : Fol (InL (us ++ [u])) t) : may t.1 t.2 = true ∧ Knows us t.1 t.2 := by
  refine ht (fun t => may t.1 t.2 = true ∧ Knows us t.1 t.2) ?_ ?_
  · rintro t v ⟨hm, hc⟩ hv
    refine ⟨outs_may hm v hv, ?_⟩
    have hkd := outs_kind hm hv
    rcases hc with h1 | h1 | h1
    · omega
    · have := Fol.out h1 (u := nm v) (by rw [outs_nm]; exact List.mem_map_of_mem hv)
      exact .inr (.inl this)
    · exact CanF.mem h1.2 v (List.mem_of_mem_drop hv)
  · rintro t ⟨x, hx, rfl⟩
    rw [may_nm]
    unfold Knows
    rw [CanT.nm]
    rcases List.mem_append.1 hx with hx | hx
    · exact ⟨hus x hx, .inr (.inl (Fol.base ⟨x, hx, rfl⟩))⟩
    · simp only [List.mem_singleton] at hx
      rw [hx]; exact ⟨hu, hk⟩

theorem knowsF_cut {us : List (Nd × Fo)} {u : Nd × Fo} (hus : ∀ x ∈ us, may x.1 x.2 = true) (hu : may u.1 u.2 = true) (hk : Knows us u.1 u.2) : ∀ f : Fo, CanF (Fol (InL (us ++ [u]))) f → CanF (Fol (InL us)) f
  | .nil, _ => trivial
  | .node _ _ a l r, h => by
    rw [CanF_node] at h ⊢
    refine ⟨?_, knowsF_cut hus hu hk r h.2⟩
    rcases h.1 with h1 | h1 | h1
    · exact .inl h1
    · have := (fol_knows hus hu hk h1).2
      unfold Knows at this
      exact (CanT.nm _ (a, l)).1 this
    · exact .inr (.inr ⟨h1.1, knowsF_cut hus hu hk l h1.2⟩)
/-- What can be made adds nothing. -/
theorem Knows.cut {us : List (Nd × Fo)} {u : Nd × Fo} (hus : ∀ x ∈ us, may x.1 x.2 = true) (hu : may u.1 u.2 = true) (hk : Knows us u.1 u.2) {a : Nd} {l : Fo} (h : Knows (us ++ [u]) a l) : Knows us a l := by
  rcases h with h1 | h1 | h1
  · exact .inl h1
  · have := (fol_knows hus hu hk h1).2
    unfold Knows at this
    exact (CanT.nm _ (a, l)).1 this
  · exact .inr (.inr ⟨h1.1, knowsF_cut hus hu hk l h1.2⟩)

end Go.Proofs.YtldpnhlifgkmiaaDoor
