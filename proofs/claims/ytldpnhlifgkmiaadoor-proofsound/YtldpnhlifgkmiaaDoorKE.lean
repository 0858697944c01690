import Derived.Test.YtldpnhlifgkmiaaDoorK16
import Derived.Test.YtldpnhlifgkmiaaDoorKD
import Derived.Test.YtldpnhlifgkmiaaDoorW20
namespace Go.Proofs.YtldpnhlifgkmiaaDoor
open Go.RowKit
set_option linter.unusedVariables false
set_option linter.unusedSimpArgs false

theorem among_knows {us : List (Nd × Fo)} {L : List Kd} (hc : Clos us (tms L)) (a : Nd) (l : Fo) (hm : may a l = true) : canT (amongB L) a l = true ↔ Knows us a l := by
  refine canT_iff (fun a l hm => ?_) hm
  rw [among_iff]
  exact hc _

set_option maxRecDepth 100000 in
set_option maxHeartbeats 4000000 in
theorem refCan_any (ks : List Kd) (v : Value) (a : Nd) (l : Fo) (u : Value) (B : Nat) (w : World) (h : SlT w v ks) (hk : ∀ k ∈ ks, may k.a k.l = true) (hN : nodesK ks ≤ 1000) (hu : RepV w B a l u) (hB : B ≤ w.heap.size) (hm : may a l = true) :
    Calls Tryd.prog 16 #[v, u] w fun e w' => CanEnd w (tms ks) a l e w' := by
  have HSL : Hid (SlT w v ks) := h
  have HK : Hid (∀ k ∈ ks, may k.a k.l = true) := hk
  have HU : Hid (RepV w B a l u) := hu
  have HM : Hid (may a l = true) := hm
  obtain ⟨hf, A, cap, b, o, rfl, hn, hA, hr⟩ := hu
  obtain ⟨OA, oc, rfl, _⟩ := h.len
  clear h hk hA hr hm
  go_enter Tryd.func16, Tryd.ntmps16
  go_wp2_with fail
  obtain ⟨W, hW⟩ : ∃ W : World, W = w.alloc (.cells #[.int .i64 a.kind, .int .i64 a.n, .string a.s, .slice A (flen l) cap] 29) := ⟨_, rfl⟩
  have hbx : Box4 W w.heap.size (.int .i64 a.kind) (.int .i64 a.n) (.string a.s) (.slice A (flen l) cap) := by rw [hW]; exact Box4.new w _ _ _ _ _
  have hbA : Below w.heap.size w W := by rw [hW]; exact Below.alloc (Below.refl _ _) (Nat.le_refl _) _
  rw [← hW]
  clear hW
  have HBX : Hid (Box4 W w.heap.size (.int .i64 a.kind) (.int .i64 a.n) (.string a.s) (.slice A (flen l) cap)) := hbx
  have hsW := hbA.size
  clear hbx
  have HOP : Hid (∀ W', Below W.heap.size W W' → Calls Tryd.prog 13 #[.slice OA ks.length oc] W' fun e w' => ∃ (L : List Kd) (u : Value), e = .returned u ∧ SlT w' u L ∧ L.length ≤ 1000 ∧ Clos (tms ks) (tms L) ∧ Below W.heap.size W w') := by
    intro W' hb
    refine (refOpen_any ks _ W' (HSL.out.below (hbA.trans (hb.mono hsW))) HK.out hN).mono ?_
    rintro e w' ⟨L, u, h1, h2, h3, h4, h5, h6, h7⟩
    exact ⟨L, u, h1, h2, by omega, h5, hb.trans (h7.mono hb.size)⟩
  have HMD : Hid (∀ (L : List Kd) (u : Value) (W' : World), Below W.heap.size W W' → SlT W' u L → L.length ≤ 1000 → Clos (tms ks) (tms L) → Calls Tryd.prog 35 #[u, .agg #[.int .i64 a.kind, .int .i64 a.n, .string a.s, .slice A (flen l) cap]] W' fun e w' => CanEnd w (tms ks) a l e w' ∧ Below W.heap.size W w') := by
    intro L u W' hb hsl hl hc
    have hb' := hbA.trans (hb.mono hsW)
    refine (made_step L u hl a l (made_all L u hl l) _ B W' hsl (HU.out.below (hb'.mono hB)) (by have := hb'.size; omega) (may_ar _ _ HM.out).1 (may_ar _ _ HM.out).2).mono ?_
    rintro e w' ⟨rfl, hb2⟩
    exact ⟨⟨_, rfl, among_knows hc a l HM.out, hb'.trans (hb2.mono hb'.size)⟩, hb.trans (hb2.mono hb.size)⟩
  go_region_held3 (fun w' => Box4 w' w.heap.size (.int .i64 a.kind) (.int .i64 a.n) (.string a.s) (.slice A (flen l) cap) ∧ Below W.heap.size W w')
    (first | exact ⟨HBX.out.below (Below.drew (Below.refl _ _)), Below.drew (Below.refl _ _)⟩ | exact ⟨HBX.out.below hb2, hb2⟩ | exact ⟨HBX.out.below hb1, hb1⟩ | assumption)
    (first
      | (go_at_call 13; refine (HOP.out _ (And.right (by assumption))).mono ?_; rintro e w1 ⟨L, u1, rfl, hsl1, hl1, hc1, hb1⟩)
      | (go_at_call 35; refine (HMD.out L u1 _ (And.right (by assumption)) hsl1 hl1 hc1).mono ?_; rintro e w2 ⟨⟨bb, rfl, hbb, hbw2⟩, hb2⟩))
  have HE : Hid (CanEnd w (tms ks) a l (.returned (.bool bb)) w2) := ⟨bb, rfl, hbb, hbw2⟩
  clear hbb
  go_wp2_with fail
  go_ret
  exact HE.out

/-- The same of two that say the same. -/
theorem CanEnd.same {w w1 w' w1' : World} {us : List (Nd × Fo)} {a : Nd} {l : Fo} {b c : Bool} (hb : b = true ↔ Knows us a l) (hc : c = true ↔ Knows us a l) : b = c := by
  cases b <;> cases c <;> simp_all

end Go.Proofs.YtldpnhlifgkmiaaDoor

namespace Go.Proofs.YtldpnhlifgkmiaaDoor
open Go.RowKit
set_option linter.unusedVariables false
set_option linter.unusedSimpArgs false

theorem rises_nodup {M : List Kd} (h : Rises M) : ((tms M).map nm).Nodup := by
  unfold tms
  rw [List.map_map, List.Nodup, List.pairwise_map]
  refine List.Pairwise.imp ?_ h
  intro j k hjk e
  have := nm_iff.1 e
  unfold ordK at hjk
  omega

theorem sameIn_inL {A B : List Kd} (h : Covers A B) {t : Nd × Fo} : InL (tms A) t → InL (tms B) t := by
  rintro ⟨x, hx, rfl⟩
  rw [tms, List.mem_map] at hx
  obtain ⟨k, hk, rfl⟩ := hx
  obtain ⟨y, hy, e⟩ := h k hk
  exact ⟨(y.a, y.l), List.mem_map_of_mem hy, (nm_iff.2 e).symm⟩

theorem inL_covers {us : List (Nd × Fo)} {A B : List Kd} (hA : Clos us (tms A)) (hB : Clos us (tms B)) : Covers A B := by
  intro x hx
  obtain ⟨y, hy, e⟩ := (hB _).2 ((hA (nm (x.a, x.l))).1 ⟨(x.a, x.l), List.mem_map_of_mem hx, rfl⟩)
  rw [tms, List.mem_map] at hy
  obtain ⟨k, hk, rfl⟩ := hy
  exact ⟨k, hk, nm_iff.1 e.symm⟩

/-- What Open answers is all that follows. -/
theorem OpenEnd.clos {w : World} {ks : List Kd} (hk : ∀ k ∈ ks, may k.a k.l = true) {e : Ending} {w' : World} (h : OpenEnd w ks e w') :
    ∃ (M : List Kd) (u : Value), e = .returned u ∧ SlT w' u M ∧ (∀ k ∈ M, may k.a k.l = true) ∧ Rises M ∧ Clos (tms ks) (tms M) ∧ M.length ≤ 1000 ∧ M.length ≤ (learnL ks []).length ∧ Below w.heap.size w w' := by
  obtain ⟨ks', M, u, rfl, ht, h1, h2, h3, h4, h5, h6, h7⟩ := h
  have hs := learnL_spec ks [] hk (fun x hx => by cases hx)
  have hc := hs.clos
  rw [← ht] at hc
  refine ⟨M, u, rfl, h1, h2, h3, fun t => ⟨fun h => (hc t).1 (sameIn_inL h4.covers h), fun h => sameIn_inL h5 ((hc t).2 h)⟩, h6, ?_, h7⟩
  have := rises_len ks' M h3 h4.covers
  rw [← ht]; unfold tms; rw [List.length_map]; exact this

theorem open_unique {us : List (Nd × Fo)} {A B : List Kd} (hA : Rises A) (hB : Rises B) (cA : Clos us (tms A)) (cB : Clos us (tms B)) : A.length = B.length ∧ ∀ i, i < A.length → ordK (A.getD i kd0) (B.getD i kd0) = 0 :=
  sortOf_unique A B hA hB (inL_covers cA cB) (inL_covers cB cA)

theorem mayF_nodes : ∀ (f : Fo) (d c : Int), (mayF f d c).1 = true → (mayF f d c).2 = c + nodesF f
  | .nil, _, _, _ => by simp [mayF, nodesF]
  | .node x y a l r, d, c, h => by
    rw [mayF] at h ⊢
    by_cases hm : mayB a (flen l) d c = true
    · rw [if_pos hm] at h ⊢
      by_cases hl : (mayF l (d + 1) (c + 1)).1 = true
      · rw [if_pos hl] at h ⊢
        rw [mayF_nodes r _ _ h, mayF_nodes l _ _ hl, nodesF]
        omega
      · rw [if_neg hl] at h; simp at h
    · rw [if_neg hm] at h; simp at h
theorem may_nodes {a : Nd} {l : Fo} (h : may a l = true) : 1 + nodesF l ≤ 64 := by
  unfold may at h
  have hle := mayT_le a l 1 0 (by omega) h
  rw [mayT_node a l 1 0 0 0] at h hle
  rw [mayF_nodes _ _ _ h, nodesF, nodesF] at hle
  omega
theorem nodesK_le : ∀ (ks : List Kd), (∀ k ∈ ks, may k.a k.l = true) → nodesK ks ≤ 64 * ks.length
  | [], _ => by simp [nodesK]
  | k :: r, h => by
    have h1 := may_nodes (h k (by simp))
    have h2 := nodesK_le r (fun j hj => h j (by simp [hj]))
    simp only [nodesK, List.length_cons]; omega

/-- A list of one. -/
theorem sl_one (w : World) (k : Kd) (hk : k.Ok w (fun b => b < w.heap.size) ∧ k.Ar) : SlT (w.alloc (.cells #[.int .i64 k.a.kind, .int .i64 k.a.n, .string k.a.s, .slice k.A (flen k.l) k.cap] 29)) (.slice (some ⟨w.heap.size, 0, none⟩) 1 1) [k] := by
  refine .inr ⟨w.heap.size, 1, rfl, by simp, fun t ht => ?_, fun j hj => ?_⟩
  · have hc : ∀ o, (w.alloc (.cells #[.int .i64 k.a.kind, .int .i64 k.a.n, .string k.a.s, .slice k.A (flen k.l) k.cap] 29)).cell? ⟨w.heap.size, o, none⟩ = (#[.int .i64 k.a.kind, .int .i64 k.a.n, .string k.a.s, .slice k.A (flen k.l) k.cap] : Array Value)[o]? := fun o => by simp [go_sem]
    rw [hc]
    simp [rowOf, Kd.cells]
  · simp only [List.mem_singleton] at hj
    subst hj
    exact ⟨hk.1.below (Below.alloc (Below.refl _ _) (Nat.le_refl _) _), hk.2⟩

theorem sl_none (w : World) : SlT w (.slice none 0 0) [] := .inl ⟨rfl, rfl⟩

def kA : Nd := ⟨1, 0, ⟨#[97]⟩⟩
def kN : Nd := ⟨2, 1, ⟨#[]⟩⟩
def kP : Nd := ⟨7, 0, ⟨#[]⟩⟩
def kH : Nd := ⟨3, 0, ⟨#[]⟩⟩
def fPa : Fo := .node 0 0 kN .nil (.node 0 0 kA .nil .nil)
def fNo : Fo := .node 0 0 kN .nil .nil
theorem may_kA : may kA .nil = true := by simp [may, mayT, mayB, mayF, formedB, kidsOf, flen, kA, empB]; decide
theorem may_kN : may kN .nil = true := by simp [may, mayT, mayB, mayF, formedB, kidsOf, flen, kN, empB]
theorem may_kP : may kP fPa = true := by simp [may, mayT, mayB, mayF, formedB, kidsOf, flen, kP, fPa, kN, kA, empB]; decide
theorem may_kH : may kH fNo = true := by simp [may, mayT, mayB, mayF, formedB, kidsOf, flen, kH, fNo, kN, empB]

/-- Nothing follows from nothing. -/
theorem fol_none {t : Nd × Fo} (h : Fol (InL []) t) : False := h (fun _ => False) (fun _ _ h _ => h) (by rintro t ⟨x, hx, _⟩; cases hx)
theorem knows_kA : Knows (tms []) kA .nil := .inl rfl
theorem knows_kN : ¬ Knows (tms []) kN .nil := by
  rintro (h | h | h)
  · exact absurd h (by decide)
  · exact fol_none h
  · exact h.1 rfl
theorem nodes3 {M : List Kd} (hr : Rises M) (hc : Clos [(kP, fPa)] (tms M)) : M.length = 3 := by
  have h1 : M.length ≤ 3 := by
    have := nodup_len (tms M) [(kP, fPa), (kN, .nil), (kA, .nil)] (rises_nodup hr) (fun x hx => by
      refine (hc (nm x)).1 ⟨x, hx, rfl⟩ (InL [(kP, fPa), (kN, .nil), (kA, .nil)]) ?_ ?_
      · rintro t u ⟨y, hy, rfl⟩ hu
        rw [outs_nm, List.mem_map] at hu
        obtain ⟨v, hv, rfl⟩ := hu
        simp only [List.mem_cons, List.not_mem_nil, or_false] at hy
        rcases hy with rfl | rfl | rfl
        · simp only [outs, skipOf, kP, fPa, kidL, if_true, List.drop_zero, List.mem_cons, List.not_mem_nil, or_false] at hv
          rcases hv with rfl | rfl
          · exact ⟨(kN, .nil), by simp, rfl⟩
          · exact ⟨(kA, .nil), by simp, rfl⟩
        · simp [outs, kidL] at hv
        · simp [outs, kidL] at hv
      · rintro t ⟨y, hy, rfl⟩
        simp only [List.mem_singleton] at hy
        exact ⟨y, by simp [hy], rfl⟩)
    simpa [tms] using this
  have h2 : 3 ≤ M.length := by
    have hP : Fol (InL [(kP, fPa)]) (nm (kP, fPa)) := Fol.base ⟨(kP, fPa), by simp, rfl⟩
    have hN : Fol (InL [(kP, fPa)]) (nm (kN, .nil)) := hP.out (by rw [outs_nm]; simp [outs, skipOf, kP, fPa, kidL])
    have hA : Fol (InL [(kP, fPa)]) (nm (kA, .nil)) := hP.out (by rw [outs_nm]; simp [outs, skipOf, kP, fPa, kidL])
    have := nodup_len [(kP, fPa), (kN, .nil), (kA, .nil)] (tms M) (by simp [nm, kP, kN, kA]) (fun x hx => by
      simp only [List.mem_cons, List.not_mem_nil, or_false] at hx
      rcases hx with rfl | rfl | rfl
      · exact (hc _).2 hP
      · exact (hc _).2 hN
      · exact (hc _).2 hA)
    simpa [tms] using this
  omega
theorem knows_kH {us vs : List (Nd × Fo)} (hc : Clos vs us) (hv : vs = [(kP, fPa)]) : Knows us kH fNo := by
  subst hv
  have hP : Fol (InL [(kP, fPa)]) (nm (kP, fPa)) := Fol.base ⟨(kP, fPa), by simp, rfl⟩
  have hN : Fol (InL [(kP, fPa)]) (nm (kN, .nil)) := hP.out (by rw [outs_nm]; simp [outs, skipOf, kP, fPa, kidL])
  have : Fol (InL us) (nm (kN, .nil)) := Fol.base ((hc _).2 hN)
  exact .inr (.inr ⟨by decide, .inr (.inl this), trivial⟩)
theorem knows_no : ¬ Knows [(kH, fNo)] kN .nil := by
  rintro (h | h | h)
  · exact absurd h (by decide)
  · have := h (fun t => t = nm (kH, fNo)) (by
      rintro t u rfl hu
      rw [outs_nm] at hu
      simp [outs, skipOf, kH, fNo, kidL] at hu) (by
      rintro t ⟨x, hx, rfl⟩
      simp only [List.mem_singleton] at hx
      rw [hx])
    simp [nm, kN, kH] at this
  · exact h.1 rfl

end Go.Proofs.YtldpnhlifgkmiaaDoor
