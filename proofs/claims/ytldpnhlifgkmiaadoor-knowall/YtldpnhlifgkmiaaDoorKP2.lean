import Derived.Test.YtldpnhlifgkmiaaDoorKP1
namespace Go.Proofs.YtldpnhlifgkmiaaDoor
open Go.RowKit
set_option linter.unusedVariables false
set_option linter.unusedSimpArgs false

/-- What is a term so deep, and behind so many, is one less deep, and behind fewer. -/
theorem mayF_mono : ∀ (f : Fo) (d d' c c' : Int), d' ≤ d → c' ≤ c → (mayF f d c).1 = true → (mayF f d' c').1 = true ∧ (mayF f d' c').2 - c' = (mayF f d c).2 - c
  | .nil, d, d', c, c', _, _, _ => by simp [mayF]
  | .node x y a l r, d, d', c, c', hd, hc, h => by
    rw [mayF] at h ⊢
    rw [mayF]
    by_cases hm : mayB a (flen l) d c = true
    · have hm' : mayB a (flen l) d' c' = true := by
        obtain ⟨h1, h2, h3⟩ := mayB_of hm
        unfold mayB at hm ⊢
        simp only [Bool.and_eq_true, decide_eq_true_eq] at hm ⊢
        exact ⟨by omega, by omega, h3⟩
      rw [if_pos hm] at h ⊢
      rw [if_pos hm']
      by_cases hl : (mayF l (d + 1) (c + 1)).1 = true
      · obtain ⟨q1, q2⟩ := mayF_mono l (d + 1) (d' + 1) (c + 1) (c' + 1) (by omega) (by omega) hl
        rw [if_pos hl] at h ⊢
        rw [if_pos q1]
        obtain ⟨r1, r2⟩ := mayF_mono r d d' _ (mayF l (d' + 1) (c' + 1)).2 hd (by omega) h
        exact ⟨r1, by omega⟩
      · rw [if_neg hl] at h; simp at h
    · rw [if_neg hm] at h; simp at h

/-- All terms within may be. -/
def AMay : Fo → Prop
  | .nil => True
  | .node _ _ a l r => may a l = true ∧ AMay l ∧ AMay r

theorem amay_of : ∀ (f : Fo) (d c : Int), 1 ≤ d → 0 ≤ c → (mayF f d c).1 = true → AMay f
  | .nil, _, _, _, _, _ => trivial
  | .node x y a l r, d, c, hd, hc, h => by
    rw [mayF] at h
    by_cases hm : mayB a (flen l) d c = true
    · rw [if_pos hm] at h
      by_cases hl : (mayF l (d + 1) (c + 1)).1 = true
      · rw [if_pos hl] at h
        have hone : (mayF (.node 0 0 a l .nil) d c).1 = true := by rw [mayF, if_pos hm, if_pos hl]; rfl
        have hmay : may a l = true := by
          have := (mayF_mono (.node 0 0 a l .nil) d 1 c 0 hd hc hone).1
          unfold may
          rw [mayT_node a l 1 0 0 0]; exact this
        have hge := mayF_ge l (d + 1) (c + 1)
        exact ⟨hmay, amay_of l (d + 1) (c + 1) (by omega) (by omega) hl, amay_of r d _ hd (by omega) h⟩
      · rw [if_neg hl] at h; simp at h
    · rw [if_neg hm] at h; simp at h

theorem may_amay {a : Nd} {l : Fo} (h : may a l = true) : AMay l := by
  unfold may at h
  rw [mayT_node a l 1 0 0 0] at h
  exact (amay_of _ 1 0 (by omega) (by omega) h).2.1

/-- A term, places forgotten. -/
def nm (t : Nd × Fo) : Nd × Fo := (t.1, norm t.2)
def kidL : Fo → List (Nd × Fo)
  | .nil => []
  | .node _ _ a l r => (a, l) :: kidL r
/-- What comes out of a term by itself. -/
def outs (t : Nd × Fo) : List (Nd × Fo) := (kidL t.2).drop (skipOf t.1.kind)
def InL (L : List (Nd × Fo)) (t : Nd × Fo) : Prop := ∃ x ∈ L, nm x = t
def Shut (P : Nd × Fo → Prop) : Prop := ∀ t u, P t → u ∈ outs t → P u
/-- What follows from some. -/
def Fol (X : Nd × Fo → Prop) (t : Nd × Fo) : Prop := ∀ P : Nd × Fo → Prop, Shut P → (∀ t, X t → P t) → P t

theorem kidL_length : ∀ f : Fo, (kidL f).length = flen f
  | .nil => rfl
  | .node _ _ a l r => by simp [kidL, flen, kidL_length r]
theorem kidL_norm : ∀ f : Fo, kidL (norm f) = (kidL f).map nm
  | .nil => rfl
  | .node _ _ a l r => by rw [norm, kidL, kidL, kidL_norm r]; rfl
theorem outs_nm (t : Nd × Fo) : outs (nm t) = (outs t).map nm := by
  unfold outs
  rw [show (nm t).2 = norm t.2 from rfl, kidL_norm, List.map_drop]; rfl
theorem nm_nm (t : Nd × Fo) : nm (nm t) = nm t := by unfold nm; rw [norm_norm]
theorem nm_iff {a b : Nd} {l m : Fo} : nm (a, l) = nm (b, m) ↔ ordT a l b m = 0 := by
  constructor
  · intro h
    unfold nm at h
    injection h with h1 h2
    simp only at h1 h2
    subst h1
    exact ordT_norm a h2
  · intro h
    obtain ⟨h1, h2⟩ := ordT_zero h
    unfold nm
    rw [h1, h2]
theorem may_nm (t : Nd × Fo) : may (nm t).1 (nm t).2 = may t.1 t.2 := by unfold may nm; rw [mayT_norm]
theorem amay_mem : ∀ {f : Fo}, AMay f → ∀ u ∈ kidL f, may u.1 u.2 = true
  | .nil, _, u, hu => by simp [kidL] at hu
  | .node _ _ a l r, h, u, hu => by
    rw [kidL] at hu
    rcases List.mem_cons.1 hu with rfl | hu
    · exact h.1
    · exact amay_mem h.2.2 u hu
theorem outs_may {t : Nd × Fo} (h : may t.1 t.2 = true) : ∀ u ∈ outs t, may u.1 u.2 = true := fun u hu => amay_mem (may_amay h) u (List.mem_of_mem_drop hu)

theorem key_in {L : List (Nd × Fo)} {a : Nd} {l : Fo} (hL : ∀ x ∈ L, may x.1 x.2 = true) (h : may a l = true) : keyT a l ∈ L.map (fun x => keyT x.1 x.2) ↔ InL L (nm (a, l)) := by
  rw [List.mem_map]
  constructor
  · rintro ⟨x, hx, e⟩
    exact ⟨x, hx, nm_iff.2 ((key_iff (hL x hx) h).1 e)⟩
  · rintro ⟨x, hx, e⟩
    exact ⟨x, hx, (key_iff (hL x hx) h).2 (nm_iff.1 e)⟩

/-- What became of L when us were learnt. -/
structure LSpec (us L L' : List (Nd × Fo)) : Prop where
  sub : ∀ x ∈ L, x ∈ L'
  has : ∀ u ∈ us, InL L' (nm u)
  shut : ∀ x ∈ L', x ∈ L ∨ ∀ u ∈ outs x, InL L' (nm u)
  may : ∀ x ∈ L', may x.1 x.2 = true
  fol : ∀ P : Nd × Fo → Prop, Shut P → (∀ u ∈ us, P (nm u)) → (∀ x ∈ L, P (nm x)) → ∀ x ∈ L', P (nm x)
  nod : (L.map nm).Nodup → (L'.map nm).Nodup

theorem InL.mono {L L' : List (Nd × Fo)} (h : ∀ x ∈ L, x ∈ L') {t : Nd × Fo} : InL L t → InL L' t := fun ⟨x, hx, e⟩ => ⟨x, h x hx, e⟩

theorem LSpec.refl {L : List (Nd × Fo)} (h : ∀ x ∈ L, Go.Proofs.YtldpnhlifgkmiaaDoor.may x.1 x.2 = true) : LSpec [] L L :=
  ⟨fun x hx => hx, fun u hu => (by cases hu), fun x hx => .inl hx, h, fun P _ _ hx => hx, fun h => h⟩

theorem LSpec.trans {us vs L L' L'' : List (Nd × Fo)} (h : LSpec us L L') (k : LSpec vs L' L'') : LSpec (us ++ vs) L L'' := by
  refine ⟨fun x hx => k.sub x (h.sub x hx), fun u hu => ?_, fun x hx => ?_, k.may, fun P hP hu hx => k.fol P hP (fun u hv => hu u (List.mem_append.2 (.inr hv))) (h.fol P hP (fun u hv => hu u (List.mem_append.2 (.inl hv))) hx), fun hn => k.nod (h.nod hn)⟩
  · rcases List.mem_append.1 hu with hu | hu
    · exact (h.has u hu).mono k.sub
    · exact k.has u hu
  · rcases k.shut x hx with hx | hx
    · rcases h.shut x hx with hx | hx
      · exact .inl hx
      · exact .inr fun u hu => (hx u hu).mono k.sub
    · exact .inr hx

theorem learnT_spec (a : Nd) (l : Fo) (L : List (Nd × Fo)) (ha : may a l = true) (hL : ∀ x ∈ L, may x.1 x.2 = true) (ih : ∀ (n : Nat) (L : List (Nd × Fo)), (∀ x ∈ L, may x.1 x.2 = true) → LSpec ((kidL l).drop n) L (learnG n l L)) : LSpec [(a, l)] L (learnT a l L) := by
  unfold learnT
  by_cases hin : keyT a l ∈ L.map (fun x => keyT x.1 x.2)
  · rw [if_pos hin]
    refine ⟨fun x hx => hx, fun u hu => ?_, fun x hx => .inl hx, hL, fun P _ _ hx => hx, fun h => h⟩
    simp only [List.mem_singleton] at hu
    rw [hu]; exact (key_in hL ha).1 hin
  · rw [if_neg hin]
    have hL1 : ∀ x ∈ L ++ [(a, l)], may x.1 x.2 = true := fun x hx => by
      rcases List.mem_append.1 hx with hx | hx
      · exact hL x hx
      · simp only [List.mem_singleton] at hx; rw [hx]; exact ha
    have h := ih (skipOf a.kind) (L ++ [(a, l)]) hL1
    refine ⟨fun x hx => h.sub x (by simp [hx]), fun u hu => ?_, fun x hx => ?_, h.may, fun P hP hu hx => ?_, fun hn => h.nod ?_⟩
    · simp only [List.mem_singleton] at hu
      rw [hu]; exact ⟨(a, l), h.sub _ (by simp), rfl⟩
    · rcases h.shut x hx with hx | hx
      · rcases List.mem_append.1 hx with hx | hx
        · exact .inl hx
        · simp only [List.mem_singleton] at hx
          rw [hx]; exact .inr h.has
      · exact .inr hx
    · have hp : P (nm (a, l)) := hu _ (by simp)
      refine h.fol P hP (fun u hv => hP _ _ hp ?_) (fun x hx' => ?_)
      · rw [outs_nm]; exact List.mem_map_of_mem hv
      · rcases List.mem_append.1 hx' with h1 | h1
        · exact hx x h1
        · simp only [List.mem_singleton] at h1; rw [h1]; exact hp
    · rw [List.map_append, List.nodup_append]
      refine ⟨hn, by simp, fun x hx y hy e => ?_⟩
      simp only [List.map_cons, List.map_nil, List.mem_singleton] at hy
      rw [List.mem_map] at hx
      obtain ⟨z, hz, hz2⟩ := hx
      exact hin ((key_in hL ha).2 ⟨z, hz, by rw [hz2, e, hy]⟩)

theorem learnG_spec : ∀ (f : Fo) (n : Nat) (L : List (Nd × Fo)), AMay f → (∀ x ∈ L, may x.1 x.2 = true) → LSpec ((kidL f).drop n) L (learnG n f L)
  | .nil, n, L, _, hL => by
    have : (kidL .nil).drop n = [] := by simp [kidL]
    rw [this]
    cases n <;> exact LSpec.refl hL
  | .node x y a l r, n + 1, L, h, hL => by
    rw [kidL, List.drop_succ_cons, learnG]
    exact learnG_spec r n L h.2.2 hL
  | .node x y a l r, 0, L, h, hL => by
    rw [learnG_node]
    have h1 := learnT_spec a l L h.1 hL (fun n L hL => learnG_spec l n L h.2.1 hL)
    exact h1.trans (learnG_spec r 0 _ h.2.2 h1.may)

theorem learnL_spec : ∀ (ks : List Kd) (L : List (Nd × Fo)), (∀ k ∈ ks, may k.a k.l = true) → (∀ x ∈ L, may x.1 x.2 = true) → LSpec (tms ks) L (learnL ks L)
  | [], L, _, hL => LSpec.refl hL
  | k :: r, L, hk, hL => by
    have h1 := learnT_spec k.a k.l L (hk k (by simp)) hL (fun n L hL => learnG_spec k.l n L (may_amay (hk k (by simp))) hL)
    exact h1.trans (learnL_spec r _ (fun j hj => hk j (by simp [hj])) h1.may)

/-- L is all that follows from us. -/
def Clos (us L : List (Nd × Fo)) : Prop := ∀ t, InL L t ↔ Fol (InL us) t

theorem LSpec.clos {us L : List (Nd × Fo)} (h : LSpec us [] L) : Clos us L := by
  intro t
  constructor
  · rintro ⟨x, hx, rfl⟩ P hP hu
    exact h.fol P hP (fun u hu' => hu _ ⟨u, hu', rfl⟩) (fun x hx => by cases hx) x hx
  · intro hf
    refine hf (InL L) ?_ ?_
    · rintro t u ⟨x, hx, rfl⟩ hu
      rw [outs_nm, List.mem_map] at hu
      obtain ⟨v, hv, rfl⟩ := hu
      rcases h.shut x hx with hx | hx
      · cases hx
      · exact hx v hv
    · rintro t ⟨u, hu, rfl⟩
      exact h.has u hu

/-- Some done, some yet to do. -/
structure QSpec (us out todo : List (Nd × Fo)) : Prop where
  has : ∀ u ∈ us, InL out (nm u) ∨ InL todo (nm u)
  shut : ∀ x ∈ out, ∀ u ∈ outs x, InL out (nm u) ∨ InL todo (nm u)
  fol : ∀ P : Nd × Fo → Prop, Shut P → (∀ u ∈ us, P (nm u)) → (∀ x ∈ out, P (nm x)) ∧ (∀ x ∈ todo, P (nm x))

theorem QSpec.init (us : List (Nd × Fo)) : QSpec us [] us := ⟨fun u hu => .inr ⟨u, hu, rfl⟩, fun x hx => (by cases hx), fun P _ hu => ⟨fun x hx => (by cases hx), hu⟩⟩
theorem QSpec.old {us out todo : List (Nd × Fo)} {t : Nd × Fo} (h : QSpec us out (t :: todo)) (ht : InL out (nm t)) : QSpec us out todo := by
  have hc : ∀ {v}, InL out v ∨ InL (t :: todo) v → InL out v ∨ InL todo v := by
    rintro v (h | ⟨x, hx, e⟩)
    · exact .inl h
    · rcases List.mem_cons.1 hx with rfl | hx
      · rw [← e]; exact .inl ht
      · exact .inr ⟨x, hx, e⟩
  exact ⟨fun u hu => hc (h.has u hu), fun x hx u hu => hc (h.shut x hx u hu), fun P hP hu => ⟨(h.fol P hP hu).1, fun x hx => (h.fol P hP hu).2 x (by simp [hx])⟩⟩
theorem QSpec.new {us out out' todo : List (Nd × Fo)} {t : Nd × Fo} (h : QSpec us out (t :: todo)) (h1 : ∀ x ∈ out', x = t ∨ x ∈ out) (h2 : ∀ x ∈ out, x ∈ out') (h3 : InL out' (nm t)) : QSpec us out' (todo ++ outs t) := by
  have hc : ∀ {v}, InL out v ∨ InL (t :: todo) v → InL out' v ∨ InL (todo ++ outs t) v := by
    rintro v (h | ⟨x, hx, e⟩)
    · exact .inl (h.mono h2)
    · rcases List.mem_cons.1 hx with rfl | hx
      · rw [← e]; exact .inl h3
      · exact .inr ⟨x, by simp [hx], e⟩
  refine ⟨fun u hu => hc (h.has u hu), fun x hx u hu => ?_, fun P hP hu => ?_⟩
  · rcases h1 x hx with rfl | hx
    · exact .inr ⟨u, by simp [hu], rfl⟩
    · exact hc (h.shut x hx u hu)
  · obtain ⟨f1, f2⟩ := h.fol P hP hu
    have ht := f2 t (by simp)
    refine ⟨fun x hx => ?_, fun x hx => ?_⟩
    · rcases h1 x hx with rfl | hx
      · exact ht
      · exact f1 x hx
    · rcases List.mem_append.1 hx with hx | hx
      · exact f2 x (by simp [hx])
      · exact hP _ _ ht (by rw [outs_nm]; exact List.mem_map_of_mem hx)
theorem QSpec.clos {us L : List (Nd × Fo)} (h : QSpec us L []) : Clos us L := by
  have hc : ∀ {v}, InL L v ∨ InL [] v → InL L v := by
    rintro v (h | ⟨x, hx, e⟩)
    · exact h
    · cases hx
  intro t
  constructor
  · rintro ⟨x, hx, rfl⟩ P hP hu
    exact (h.fol P hP (fun u hu' => hu _ ⟨u, hu', rfl⟩)).1 x hx
  · intro hf
    refine hf (InL L) ?_ ?_
    · rintro t u ⟨x, hx, rfl⟩ hu
      rw [outs_nm, List.mem_map] at hu
      obtain ⟨v, hv, rfl⟩ := hu
      exact hc (h.shut x hx v hv)
    · rintro t ⟨u, hu, rfl⟩
      exact hc (h.has u hu)

/-- No more that are unlike than there are. -/
theorem nodup_len : ∀ (L ks : List (Nd × Fo)), (L.map nm).Nodup → (∀ x ∈ L, InL ks (nm x)) → L.length ≤ ks.length
  | [], _, _, _ => by simp
  | x :: L, ks, hn, hs => by
    obtain ⟨y, hy, e⟩ := hs x (by simp)
    obtain ⟨s, t, rfl⟩ := List.append_of_mem hy
    rw [List.map_cons, List.nodup_cons] at hn
    have := nodup_len L (s ++ t) hn.2 (fun z hz => by
      obtain ⟨v, hv, e2⟩ := hs z (by simp [hz])
      rcases List.mem_append.1 hv with hv | hv
      · exact ⟨v, by simp [hv], e2⟩
      · rcases List.mem_cons.1 hv with rfl | hv
        · exact absurd (by rw [← e, e2]; exact List.mem_map_of_mem hz) hn.1
        · exact ⟨v, by simp [hv], e2⟩)
    simp at this ⊢; omega

end Go.Proofs.YtldpnhlifgkmiaaDoor
