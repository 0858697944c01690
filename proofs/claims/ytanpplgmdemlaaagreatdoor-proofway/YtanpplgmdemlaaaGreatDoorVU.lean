import Derived.Test.YtanpplgmdemlaaaGreatDoorVM
namespace Go.Proofs.YtanpplgmdemlaaaGreatDoor
open Go.RowKit
set_option linter.unusedVariables false
set_option linter.unusedSimpArgs false

theorem onP_ok {o : Option (Nd × Fo)} {f : Nd × Fo → Except Int (Nd × Fo)} {t : Nd × Fo} (h : onP o f = .ok t) : ∃ u, o = some u ∧ f u = .ok t := by
  cases o with
  | none => simp [onP] at h
  | some u => exact ⟨u, rfl, h⟩
theorem atL_mem {l : List (Nd × Fo)} {x : Int} {t : Nd × Fo} (h : atL l x = some t) : t ∈ l := by
  unfold atL at h
  split at h
  · exact List.mem_of_getElem? h
  · cases h
theorem openP_ok {kk : Int} {i : Nat} {u t : Nd × Fo} (h : openP kk i u = .ok t) : u.1.kind = kk ∧ (kidL u.2)[i]? = some t := by
  unfold openP at h
  split at h
  · rename_i hk
    refine ⟨hk, ?_⟩
    cases hj : (kidL u.2)[i]? with
    | none => rw [hj] at h; simp at h
    | some v => rw [hj] at h; simp at h; rw [h]
  · cases h
/-- What comes out of what is known is known. -/
theorem Knows.outs {us : List (Nd × Fo)} {u t : Nd × Fo} (hm : may u.1 u.2 = true) (hk : Knows us u.1 u.2) (ht : t ∈ Go.Proofs.YtanpplgmdemlaaaGreatDoor.outs u) : Knows us t.1 t.2 := by
  have hkd := outs_kind hm ht
  rcases hk with h1 | h1 | h1
  · omega
  · have := Fol.out h1 (u := nm t) (by rw [show nm (u.1, u.2) = nm u from rfl, outs_nm]; exact List.mem_map_of_mem ht)
    exact .inr (.inl this)
  · exact CanF.mem h1.2 t (List.mem_of_mem_drop ht)
theorem step_knows {us rs : List (Nd × Fo)} {m : Mv} {t : Nd × Fo} (hr : ∀ x ∈ rs, may x.1 x.2 = true ∧ Knows us x.1 x.2) (h : stepP us rs m = .ok t) : may t.1 t.2 = true ∧ Knows us t.1 t.2 := by
  unfold stepP at h
  cases hraw : rawP us rs m with
  | error e => rw [hraw] at h; simp [mayP] at h
  | ok u =>
    rw [hraw] at h
    unfold mayP at h
    simp only at h
    split at h
    · rename_i hmay
      injection h with h
      subst h
      refine ⟨hmay, ?_⟩
      unfold rawP at hraw
      split at hraw
      · obtain ⟨v, h1, h2⟩ := onP_ok hraw
        injection h2 with h2
        subst h2
        exact .inr (.inl (Fol.base ⟨v, atL_mem h1, rfl⟩))
      · split at hraw
        · injection hraw with hraw
          subst hraw
          exact .inl rfl
        · split at hraw
          · obtain ⟨v, h1, h2⟩ := onP_ok hraw
            obtain ⟨h3, h4⟩ := openP_ok h2
            have hv := hr v (atL_mem h1)
            exact Knows.outs hv.1 hv.2 (by unfold Go.Proofs.YtanpplgmdemlaaaGreatDoor.outs skipOf; rw [if_pos h3, List.drop_zero]; exact List.mem_of_getElem? h4)
          · split at hraw
            · obtain ⟨v, h1, h2⟩ := onP_ok hraw
              obtain ⟨h3, h4⟩ := openP_ok h2
              have hv := hr v (atL_mem h1)
              exact Knows.outs hv.1 hv.2 (by unfold Go.Proofs.YtanpplgmdemlaaaGreatDoor.outs skipOf; rw [if_pos h3, List.drop_zero]; exact List.mem_of_getElem? h4)
            · split at hraw
              · obtain ⟨v, h1, h2⟩ := onP_ok hraw
                obtain ⟨h3, h4⟩ := openP_ok h2
                have hv := hr v (atL_mem h1)
                refine Knows.outs hv.1 hv.2 ?_
                unfold Go.Proofs.YtanpplgmdemlaaaGreatDoor.outs skipOf
                rw [if_neg (by omega), if_pos h3]
                exact List.mem_of_getElem? (i := 0) (by rw [List.getElem?_drop]; exact h4)
              · split at hraw
                · rename_i hk
                  obtain ⟨v, h1, h2⟩ := onP_ok hraw
                  injection h2 with h2
                  subst h2
                  have hv := hr v (atL_mem h1)
                  refine .inr (.inr ⟨by show m.kind - 3 ≠ 2; omega, CanF.of fun x hx => ?_⟩)
                  simp only [kidL, List.mem_singleton] at hx
                  rw [hx]; exact hv.2
                · split at hraw
                  · rename_i hk
                    obtain ⟨v, h1, h2⟩ := onP_ok hraw
                    obtain ⟨x, h3, h4⟩ := onP_ok h2
                    injection h4 with h4
                    subst h4
                    have hv := hr v (atL_mem h1)
                    have hx := hr x (atL_mem h3)
                    refine .inr (.inr ⟨by show m.kind - 3 ≠ 2; omega, CanF.of fun y hy => ?_⟩)
                    simp only [kidL, List.mem_cons, List.not_mem_nil, or_false] at hy
                    rcases hy with rfl | rfl
                    · exact hv.2
                    · exact hx.2
                  · cases hraw
    · cases h
/-- What is proved can be known. -/
theorem run_knows {us : List (Nd × Fo)} : ∀ (ms : List Mv) (rs rs' : List (Nd × Fo)), (∀ x ∈ rs, may x.1 x.2 = true ∧ Knows us x.1 x.2) → runS us rs ms = .ok rs' → ∀ x ∈ rs', may x.1 x.2 = true ∧ Knows us x.1 x.2
  | [], rs, rs', hr, h => by
    rw [runS] at h
    injection h with h
    subst h
    exact hr
  | m :: r, rs, rs', hr, h => by
    rw [runS] at h
    cases hs : stepP us rs m with
    | error e => rw [hs] at h; cases h
    | ok t =>
      rw [hs] at h
      refine run_knows r (rs ++ [t]) rs' (fun x hx => ?_) h
      rcases List.mem_append.1 hx with hx | hx
      · exact hr x hx
      · simp only [List.mem_singleton] at hx; rw [hx]; exact step_knows hr hs

end Go.Proofs.YtanpplgmdemlaaaGreatDoor

namespace Go.Proofs.YtanpplgmdemlaaaGreatDoor
open Go.RowKit
set_option linter.unusedVariables false
set_option linter.unusedSimpArgs false

def MovesEnd (w : World) (most : Nat) (e : Ending) (w' : World) : Prop :=
  ∃ (A : Option Addr) (c : Nat) (ms : List Mv), e = .returned (.slice A ms.length c) ∧ ms.length ≤ most ∧ Below w.heap.size w w' ∧ MvsAt w' w'.heap.size ms A ∧ (∀ m ∈ ms, m.s.size ≤ maxLen) ∧ ms.length ≤ c

def MovRel (w : World) (B most : Nat) (ns : List Int) (LA : Option Addr) (cap : Nat) (kv iv : Value) (wr : World) : Prop :=
  ∃ (n k : Nat) (ms : List Mv), iv = .int .i64 (n : Int) ∧ ms.length = n ∧ n ≤ most ∧ k ≤ ns.length ∧ TapeAt wr w.heap.size LA ns.length cap k ∧ NumsAt wr B ns LA ∧ Below w.heap.size w wr ∧ wr.ownsRow (w.heap.size + 1) 39 4 kv n (rowM ms) ∧ ∀ m ∈ ms, m.s.size ≤ maxLen

theorem pick_short (i : Nat) : (List.getD ([⟨#[97]⟩, ⟨#[98]⟩, ⟨#[]⟩] : List ByteArray) i ByteArray.empty).size ≤ maxLen := by
  unfold maxLen
  match i with
  | 0 => decide
  | 1 => decide
  | 2 => decide
  | i + 3 => simp [List.getD]

theorem mov_step {w wr wZ w9 : World} {B most n k' cap : Nat} {ns : List Int} {LA : Option Addr} {ms : List Mv} {mm : Mv} {u6 v9 : Value} (hbl : Below w.heap.size w wr) (htr : w.heap.size < wr.heap.size) (hB : B ≤ w.heap.size) (hvk : ∀ q, u6.ownBlock = some q → w.heap.size + 1 ≤ q ∧ q < wr.heap.size) (O : Only w.heap.size wr wZ)
    (hms : ms.length = n) (hsh : ∀ m ∈ ms, m.s.size ≤ maxLen) (hmm : mm.s.size ≤ maxLen) (hn : n < most) (hk : k' ≤ ns.length) (ht : TapeAt wZ w.heap.size LA ns.length cap k') (hnr : NumsAt wZ B ns LA)
    (hown : w9.ownsRow (w.heap.size + 1) 39 4 v9 (n + 1) (rowM ms ++ mm.cells)) (hgrow : (wZ.alloc (.cells #[.int .i64 mm.kind, .int .i64 mm.a, .int .i64 mm.b, .string mm.s] 39)).grownBy w9 u6.ownBlock) :
    MovRel w B most ns LA cap v9 (.int .i64 ((n : Int) + 1)) w9 := by
  have hs := hgrow.size
  rw [World.heap_size_alloc'] at hs
  have hO := O.size
  have hblk : ∀ q, q ≤ w.heap.size → w9.heap[q]? = wZ.heap[q]? := fun q hq => by
    rw [hgrow.block q (by rw [World.heap_size_alloc']; omega) (fun e => by have := hvk q e.symm; omega)]
    exact Below.heap_alloc _ _ _ (by omega)
  refine ⟨n + 1, k', ms ++ [mm], by simp, by simp [hms], by omega, hk, ?_, ?_, ?_, ?_, fun m hm => ?_⟩
  · obtain ⟨q0, q1, q2, q3⟩ := ht
    have hb := hblk w.heap.size (Nat.le_refl _)
    exact ⟨by omega, by rw [World.cell?_of_block hb]; exact q1, by rw [World.cell?_of_block hb]; exact q2, by rw [World.frozen?_of_block hb]; exact q3⟩
  · rcases hnr with h | ⟨lb, lo, e, hl, hc⟩
    · exact .inl h
    · exact .inr ⟨lb, lo, e, hl, fun i hi => by rw [World.cell?_of_block (hblk lb (by omega))]; exact hc i hi⟩
  · exact hbl.trans ⟨hgrow.os.trans O.os, hgrow.tape.trans O.tape, hgrow.output.trans O.output, by omega, fun q hq => by rw [hblk q (by omega)]; exact O.block q (by omega) (by omega)⟩
  · rw [rowM_append]; simpa [rowM] using hown
  · rcases List.mem_append.1 hm with hm | hm
    · exact hsh m hm
    · simp only [List.mem_singleton] at hm; rw [hm]; exact hmm

end Go.Proofs.YtanpplgmdemlaaaGreatDoor
