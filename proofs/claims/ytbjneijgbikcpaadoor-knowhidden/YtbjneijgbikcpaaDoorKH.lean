import Derived.Test.YtbjneijgbikcpaaDoorKG
import Derived.Test.YtbjneijgbikcpaaDoorH1
import Derived.Test.YtbjneijgbikcpaaDoorW6
namespace Go.Proofs.YtbjneijgbikcpaaDoor
open Go.RowKit
set_option linter.unusedVariables false
set_option linter.unusedSimpArgs false

/-- The atom of one byte. -/
def atY (b : UInt8) : Nd × Fo := (⟨1, 0, ⟨#[b]⟩⟩, .nil)
/-- The secret: a nonce. -/
def secN (x : Int) : Nd × Fo := (⟨2, x, ByteArray.empty⟩, .nil)
def kid1 (k : Int) (t : Nd × Fo) : Nd × Fo := (⟨k, 0, ByteArray.empty⟩, .node 0 0 t.1 t.2 .nil)
def kid2 (k : Int) (t u : Nd × Fo) : Nd × Fo := (⟨k, 0, ByteArray.empty⟩, .node 0 0 t.1 t.2 (.node 0 0 u.1 u.2 .nil))
/-- What is told of the secret. -/
def hides (s o : Nd × Fo) : List (Nd × Fo) := [kid1 3 s, kid1 4 s, kid2 5 s o, kid2 6 s (atY 120), kid1 3 (kid2 7 s o)]

theorem missF_mem {b : Nd} {m : Fo} : ∀ {f : Fo}, missF b m f = true → ∀ u ∈ kidL f, missT b m u.1 u.2 = true
  | .nil, _, u, hu => by cases hu
  | .node _ _ a l r, h, u, hu => by
    rw [missF_node, Bool.and_eq_true] at h
    rcases List.mem_cons.1 hu with e | e
    · rw [e]; exact h.1
    · exact missF_mem h.2 u e

theorem miss_bne {a b : Nd} {l m : Fo} : (ordT a l b m != 0) = true ↔ nm (a, l) ≠ nm (b, m) := by
  rw [bne_iff_ne, Ne, Ne, nm_iff]

theorem missF_norm (b : Nd) (m : Fo) : ∀ f : Fo, missF b m (norm f) = missF b m f
  | .nil => rfl
  | .node _ _ a l r => by
    rw [norm, missF, missF, missF_norm b m l, missF_norm b m r]
    congr 1
    rw [Bool.eq_iff_iff, miss_bne, miss_bne]
    simp only [nm, norm_norm]

theorem missT_nm (b : Nd) (m : Fo) (t : Nd × Fo) : missT b m (nm t).1 (nm t).2 = missT b m t.1 t.2 := by
  unfold missT nm
  rw [missF_norm]
  congr 1
  rw [Bool.eq_iff_iff, miss_bne, miss_bne]
  simp only [nm, norm_norm]

def HidP (s o : Nd × Fo) (t : Nd × Fo) : Prop := (∃ h ∈ hides s o, nm h = t) ∨ missT s.1 s.2 t.1 t.2 = true

theorem hid_shut (x : Int) (o : Nd × Fo) : Shut (HidP (secN x) o) := by
  rintro t u (⟨h, hh, rfl⟩ | ht) hu
  · rw [outs_nm] at hu
    obtain ⟨v, hv, rfl⟩ := List.mem_map.1 hu
    right
    rw [missT_nm]
    simp only [hides, List.mem_cons, List.mem_nil_iff, or_false] at hh
    rcases hh with rfl | rfl | rfl | rfl | rfl
    · simp [outs, kid1, kidL, skipOf] at hv
    · simp [outs, kid1, kidL, skipOf] at hv
    · simp [outs, kid2, kidL, skipOf] at hv
    · simp [outs, kid2, kidL, skipOf] at hv
      subst hv
      unfold missT
      rw [Bool.and_eq_true, miss_bne]
      refine ⟨fun e => ?_, rfl⟩
      have := congrArg (fun t : Nd × Fo => t.1.kind) e
      simp [nm, atY, secN] at this
    · simp [outs, kid1, kidL, skipOf] at hv
  · right
    unfold missT at ht
    rw [Bool.and_eq_true] at ht
    exact missF_mem ht.2 u (List.mem_of_mem_drop hu)

theorem hid_fol {us : List (Nd × Fo)} {x : Int} {o : Nd × Fo} (hus : ∀ u ∈ us, missT (secN x).1 (secN x).2 u.1 u.2 = true) {t : Nd × Fo} (h : Fol (InL (us ++ hides (secN x) o)) t) : HidP (secN x) o t := by
  refine h _ (hid_shut x o) ?_
  rintro t ⟨u, hu, rfl⟩
  rcases List.mem_append.1 hu with hu | hu
  · right; rw [missT_nm]; exact hus u hu
  · exact .inl ⟨u, hu, rfl⟩

theorem missT_self (s : Nd × Fo) : missT s.1 s.2 s.1 s.2 = false := by unfold missT; rw [ordT_self]; rfl

theorem hid_secret {us : List (Nd × Fo)} {x : Int} {o : Nd × Fo} (hus : ∀ u ∈ us, missT (secN x).1 (secN x).2 u.1 u.2 = true) : ¬ Knows (us ++ hides (secN x) o) (secN x).1 (secN x).2 := by
  rintro (h | h | h)
  · simp [secN] at h
  · rcases hid_fol hus h with ⟨v, hv, e⟩ | e
    · have := congrArg (fun t : Nd × Fo => t.1.kind) e
      simp only [hides, List.mem_cons, List.mem_nil_iff, or_false] at hv
      rcases hv with rfl | rfl | rfl | rfl | rfl <;> simp [nm, kid1, kid2, secN] at this
    · rw [missT_nm] at e
      rw [missT_self] at e
      cases e
  · simp [secN] at h

theorem miss_kid2 (k : Int) (s u : Nd × Fo) : missT s.1 s.2 (kid2 k s u).1 (kid2 k s u).2 = false := by
  unfold missT kid2
  simp only [missF, ordT_self]
  simp

theorem hid_two {us : List (Nd × Fo)} {x : Int} {o : Nd × Fo} (hus : ∀ u ∈ us, missT (secN x).1 (secN x).2 u.1 u.2 = true) (k : Int) (hk : k = 5 ∨ k = 6) (ho : o.1 ≠ (atY 121).1) : ¬ Knows (us ++ hides (secN x) o) (kid2 k (secN x) (atY 121)).1 (kid2 k (secN x) (atY 121)).2 := by
  rintro (h | h | h)
  · simp [kid2] at h; omega
  · rcases hid_fol hus h with ⟨v, hv, e⟩ | e
    · simp only [hides, List.mem_cons, List.mem_nil_iff, or_false] at hv
      rcases hv with rfl | rfl | rfl | rfl | rfl
      · have := congrArg (fun t : Nd × Fo => t.1.kind) e; simp [nm, kid1, kid2] at this; omega
      · have := congrArg (fun t : Nd × Fo => t.1.kind) e; simp [nm, kid1, kid2] at this; omega
      · have := congrArg (fun t : Nd × Fo => (kidL t.2)[1]?) e
        simp [nm, kid2, norm, kidL] at this
        exact ho this.1
      · have := congrArg (fun t : Nd × Fo => (kidL t.2)[1]?) e
        simp [nm, kid2, norm, kidL, atY] at this
      · have := congrArg (fun t : Nd × Fo => t.1.kind) e; simp [nm, kid1, kid2] at this; omega
    · rw [missT_nm] at e
      rw [miss_kid2] at e
      cases e
  · have := CanF.mem h.2 (secN x) (by simp [kid2, kidL])
    exact hid_secret hus this

theorem hid_first (us : List (Nd × Fo)) (s o : Nd × Fo) : Knows (us ++ hides s o) (kid1 3 s).1 (kid1 3 s).2 :=
  .inr (.inl (Fol.base ⟨kid1 3 s, by simp [hides], rfl⟩))

theorem hid_told (us : List (Nd × Fo)) (x : Int) : Knows (us ++ [secN x]) (kid2 6 (secN x) (atY 121)).1 (kid2 6 (secN x) (atY 121)).2 := by
  refine .inr (.inr ⟨by simp [kid2], CanF.of fun u hu => ?_⟩)
  simp [kid2, kidL] at hu
  rcases hu with rfl | rfl
  · exact .inr (.inl (Fol.base ⟨secN x, by simp, rfl⟩))
  · exact .inl rfl

theorem tape_noY (ns : List Int) : (tapeT ns 4 0).1.1 ≠ (atY 121).1 := by
  have hs : ∀ n : Nat, tapeStrs.getD n ByteArray.empty ≠ ⟨#[121]⟩ := fun n => by
    have h9 : n < 9 ∨ 9 ≤ n := by omega
    rcases h9 with h | h
    · have : ∀ m : Fin 9, (tapeStrs.getD m.1 ByteArray.empty).data.toList ≠ [121] := by decide +kernel
      intro e
      exact this ⟨n, h⟩ (by show (tapeStrs.getD n ByteArray.empty).data.toList = _; rw [e])
    · rw [List.getD_eq_getElem?_getD, List.getElem?_eq_none (by simp [tapeStrs]; omega)]
      intro e
      have := congrArg (fun b : ByteArray => b.data.toList.length) e
      simp at this
  have l1 := nextV_lo ns 0 10
  intro e
  rw [tapeT] at e
  have ek := congrArg Nd.kind e
  have es := congrArg Nd.s e
  simp only [atY] at ek es
  split at ek
  · rename_i h
    rw [if_pos h] at es
    exact hs _ es
  · split at ek
    · simp at ek
    · split at ek
      · simp at ek; omega
      · simp at ek; omega

end Go.Proofs.YtbjneijgbikcpaaDoor
