import Derived.Test.YtgmmbfnmojjbkaaGreatDoorR1
import Derived.Deep.RegionHeld3
namespace Go.Proofs.YtgmmbfnmojjbkaaGreatDoor
open Go.RowKit
set_option linter.unusedVariables false
set_option linter.unusedSimpArgs false

theorem not_until {b : Bool} {p : Prop} (hb : b = true) (h : b = false) : p := by rw [hb] at h; cases h

section
variable {P : Program} {ops : Array Oper} {Q : Exit → Act → World → Prop} {md : Region.Mode} {S T : World → Prop} {j : Nat}

/-- As wpAnyH, but the condition is asked only till operation j has come up: a load that j waits for may be taken first, and j, or what is behind it, may turn its cell. -/
def wpAnyU (P : Program) (md : Region.Mode) (ops : Array Oper) (Q : Exit → Act → World → Prop) (S : World → Prop) (j : Nat) : Nat → Array Bool → Act → World → Prop
  | 0, listed, a, w => Region.ready md ops listed = [] ∧ Q .normal a w
  | fuel + 1, listed, a, w =>
    (Region.ready md ops listed = [] → Q .normal a w) ∧
    ∀ i ∈ Region.ready md ops listed, wpOp P ops Q i (fun a' w' => ((listed.setIfInBounds i true).getD j true = false → S w') ∧ wpAnyU P md ops Q S j fuel (listed.setIfInBounds i true) a' w') a w

theorem wpAny_of_until : ∀ (fuel : Nat) (listed : Array Bool) (a : Act) (w : World), wpAnyU P md ops Q S j fuel listed a w → wpAny P md ops Q fuel listed a w
  | 0, _, _, _, h => h
  | fuel + 1, _, _, _, h => ⟨h.1, fun i hi => wpOp_mono (fun a' w' h' => wpAny_of_until fuel _ a' w' h'.2) (h.2 i hi)⟩

theorem wpAnyU_first {i : Nat} {oi : Oper} {v : Value} (hi : ops[i]? = some oi) (hsel : ∀ (j : Nat) (o : Oper) cs b, ops[j]? = some o → o.op ≠ .select cs b)
    (hQ : ∀ c a w, Q (.panic c) (a.put oi.dst v) w → Q (.panic c) a w) (hij : i ≠ j) (hT : (∀ w, T w) ∨ ((∀ w, S w → T w) ∧ ∃ oj, ops[j]? = some oj ∧ ∃ e ∈ oj.after, Region.binds md e = true ∧ e.on = i)) :
    ∀ (fuel : Nat) (listed : Array Bool) (a : Act) (w : World),
      (∀ k ok, ops[k]? = some ok → k ≠ i → listed.getD k true = false → (∀ e ∈ ok.after, Region.binds md e = true → e.on ≠ i) → oi.apart ops ok = true) →
      i ∈ Region.ready md ops listed → ((∀ w, T w) ∨ listed.getD j true = false) → YieldsIf P ops T oi v a → (listed.getD j true = false → S w) →
      wpAnyU P md ops Q S j fuel (listed.setIfInBounds i true) (a.put oi.dst v) w → wpAnyU P md ops Q S j (fuel + 1) listed a w := by
  have hTw : ∀ (listed : Array Bool) (w : World), ((∀ w, T w) ∨ listed.getD j true = false) → (listed.getD j true = false → S w) → T w := fun listed w h hS => by
    rcases hT with h1 | ⟨h1, _⟩
    · exact h1 w
    · rcases h with h | h
      · exact h w
      · exact h1 w (hS h)
  intro fuel
  induction fuel with
  | zero =>
    intro listed a w _ hr hj hy hS H
    refine ⟨fun h => (by rw [h] at hr; cases hr), fun k hk => ?_⟩
    by_cases hki : k = i
    · subst hki; exact hy.wpOp hi (hTw listed w hj hS) ⟨fun h => hS (by rwa [getD_set_ne true hij] at h), H⟩
    · have := ready_mono hk hki
      rw [H.1] at this
      cases this
  | succ fuel ih =>
    intro listed a w hfree hr hj hy hS H
    refine ⟨fun h => (by rw [h] at hr; cases hr), fun k hk => ?_⟩
    by_cases hki : k = i
    · subst hki; exact hy.wpOp hi (hTw listed w hj hS) ⟨fun h => hS (by rwa [getD_set_ne true hij] at h), H⟩
    · have h1 := H.2 k (ready_mono hk hki)
      obtain ⟨hkun, ok, hok, hall⟩ := mem_ready.1 hk
      have hnot : ∀ e ∈ ok.after, Region.binds md e = true → e.on ≠ i := fun e he hb heq => by
        have h1 := hall e he hb
        have h0 := (mem_ready.1 hr).1
        rw [heq] at h1
        rcases Nat.lt_or_ge i listed.size with h' | h'
        · simp [h'] at h0 h1; rw [h0] at h1; cases h1
        · simp [Array.getElem?_eq_none h'] at h1
      have h2 := wpOp_putIf hok (hfree k ok hok hki hkun hnot) (fun cs b => hsel i oi cs b hi) (fun cs b => hsel k ok cs b hok) hQ hy h1
      have hfree' : ∀ q oq, ops[q]? = some oq → q ≠ i → (listed.setIfInBounds k true).getD q true = false →
          (∀ e ∈ oq.after, Region.binds md e = true → e.on ≠ i) → oi.apart ops oq = true := fun q oq hq hqi hun hno => by
        refine hfree q oq hq hqi ?_ hno
        by_cases hkq : k = q
        · subst hkq; exact hkun
        · rw [getD_set_ne true hkq] at hun; exact hun
      have hj' : (∀ w, T w) ∨ (listed.setIfInBounds k true).getD j true = false := by
        rcases hT with h | ⟨_, oj, hoj, e, he, hb, heq⟩
        · exact .inl h
        · rcases hj with h | h
          · exact .inl h
          · refine .inr ?_
            have hkj : k ≠ j := by
              rintro rfl
              rw [hok] at hoj
              injection hoj with hoj
              subst hoj
              exact hnot e he hb heq
            rw [getD_set_ne true hkj]; exact h
      refine wpOp_mono (fun a' w' h3 => ?_) h2
      have hS' : (listed.setIfInBounds k true).getD j true = false → S w' := fun h => h3.2.1 (by
        rw [Array.setIfInBounds_comm _ _ (Ne.symm hki), getD_set_ne true hij]; exact h)
      refine ⟨hS', ih (listed.setIfInBounds k true) a' w' hfree' (ready_mono hr (Ne.symm hki)) hj' h3.1 hS' ?_⟩
      rw [Array.setIfInBounds_comm _ _ hki]
      exact h3.2.2

/-- Take an operation that yields in whatever world. -/
theorem wpAnyU_pure {i : Nat} {oi : Oper} {v : Value} {fuel : Nat} {listed : Array Bool} {a : Act} {w : World} (hi : ops[i]? = some oi)
    (hs : Region.noSelect ops = true) (hf : Region.free md ops listed i = true) (hr : (Region.ready md ops listed).contains i = true) (hij : i ≠ j)
    (hQ : ∀ c a w, Q (.panic c) (a.put oi.dst v) w → Q (.panic c) a w) (hy : YieldsIf P ops (fun _ => True) oi v a) (hS : listed.getD j true = false → S w)
    (h : wpAnyU P md ops Q S j fuel (listed.setIfInBounds i true) (a.put oi.dst v) w) : wpAnyU P md ops Q S j (fuel + 1) listed a w :=
  wpAnyU_first hi (Region.noSelect_spec hs) hQ hij (.inl fun _ => trivial) fuel listed a w (Region.free_spec hi hf) (by simpa using hr) (.inl fun _ => trivial) hy hS h

/-- Take a load that j waits for. -/
theorem wpAnyU_load {i : Nat} {oi oj : Oper} {v : Value} {fuel : Nat} {listed : Array Bool} {a : Act} {w : World} (hi : ops[i]? = some oi) (hoj : ops[j]? = some oj)
    (hs : Region.noSelect ops = true) (hf : Region.free md ops listed i = true) (hr : (Region.ready md ops listed).contains i = true) (hij : i ≠ j) (hw : oj.after.toList.any (fun e => Region.binds md e && (e.on == i)) = true) (hl : listed.getD j true = false)
    (hQ : ∀ c a w, Q (.panic c) (a.put oi.dst v) w → Q (.panic c) a w) (hy : YieldsIf P ops S oi v a) (hS : S w)
    (h : wpAnyU P md ops Q S j fuel (listed.setIfInBounds i true) (a.put oi.dst v) w) : wpAnyU P md ops Q S j (fuel + 1) listed a w := by
  refine wpAnyU_first (T := S) hi (Region.noSelect_spec hs) hQ hij (.inr ⟨fun _ h => h, oj, hoj, ?_⟩) fuel listed a w (Region.free_spec hi hf) (by simpa using hr) (.inr hl) hy (fun _ => hS) h
  obtain ⟨e, he, hb⟩ := List.any_eq_true.1 hw
  simp only [Bool.and_eq_true, beq_iff_eq] at hb
  exact ⟨e, by simpa using he, hb.1, hb.2⟩

/-- One operation alone may come up. -/
theorem wpAnyU_one {i : Nat} {o : Oper} {fuel : Nat} {listed : Array Bool} {a : Act} {w : World} (hr : Region.ready md ops listed = [i]) (ho : ops[i]? = some o)
    (h : ∀ K' : Act → World → Prop, Shut (∀ a w, ((listed.setIfInBounds i true).getD j true = false → S w) → wpAnyU P md ops Q S j fuel (listed.setIfInBounds i true) a w → K' a w) → if Region.wanted o (yielded ops a.tmps) = true then Oper.wp P o a w K' Q else K' (a.put o.dst undef) w) :
    wpAnyU P md ops Q S j (fuel + 1) listed a w := by
  refine ⟨fun h0 => (by rw [hr] at h0; cases h0), fun k hk => ?_⟩
  rw [hr] at hk
  obtain rfl : k = i := by simpa using hk
  exact wpOp_step ho (fun K' hK => h K' (fun a w hS hW => hK a w ⟨hS, hW⟩))

theorem wpAnyU_done {listed : Array Bool} {a : Act} {w : World} (hr : Region.ready md ops listed = []) (h : Q .normal a w) :
    ∀ fuel, wpAnyU P md ops Q S j fuel listed a w
  | 0 => ⟨hr, h⟩
  | _ + 1 => ⟨fun _ => h, by rw [hr]; simp⟩

theorem wp_region_until {id : Nat} {a : Act} {w : World} (hm : P.follows .mixedOrders = true)
    (h : wpAnyU P .any ops Q S j ops.size (Array.replicate ops.size false) a w.drew) : (Code.region id ops true).wp P Q a w :=
  wp_region_any hm (wpAny_of_until _ _ _ _ h)

end

end Go.Proofs.YtgmmbfnmojjbkaaGreatDoor

namespace Go.Proofs.YtgmmbfnmojjbkaaGreatDoor
open Go.RowKit
set_option linter.unusedVariables false
set_option linter.unusedSimpArgs false

/-- A slice stored into a cell. -/
theorem step_store {P : Program} {ops : Array Oper} {o : Oper} {a : Act} {w : World} {K : Act → World → Prop} {Q : Exit → Act → World → Prop} {E : Prop} (hgd : o.guard = none) (t : TypeId) (p x : Operand) (ho : o.op = .store t p x)
    (ad : Addr) (A : Option Addr) (n c : Nat) (hp : a.eval p = .pointer (some ad)) (hx : a.eval x = .slice A n c) (u : Value) (hc : w.cell? ad = some u) (hf : w.frozen? ad = false) (hs : ∀ w, (Go.sizeOf t).run P w = .ok 1 w)
    (h : K (a.put o.dst undef) (w.setCell ad (.slice A n c))) : if Region.wanted o (yielded ops a.tmps) = true then Oper.wp P o a w K Q else E := by
  have hw : Region.wanted o (yielded ops a.tmps) = true := by simp [Region.wanted, hgd]
  rw [if_pos hw]
  unfold Oper.wp execOp
  simp only [ho, hp, hx]
  simp [go_sem, hs, hc, hf, Oper.upon]
  exact h

/-- Two operations may come up. -/
theorem wpAnyU_two {P : Program} {ops : Array Oper} {Q : Exit → Act → World → Prop} {md : Region.Mode} {S : World → Prop} {j i k : Nat} {o o' : Oper} {fuel : Nat} {listed : Array Bool} {a : Act} {w : World} (hr : Region.ready md ops listed = [i, k]) (ho : ops[i]? = some o) (ho' : ops[k]? = some o')
    (h : ∀ K' : Act → World → Prop, Shut (∀ a w, ((listed.setIfInBounds i true).getD j true = false → S w) → wpAnyU P md ops Q S j fuel (listed.setIfInBounds i true) a w → K' a w) → if Region.wanted o (yielded ops a.tmps) = true then Oper.wp P o a w K' Q else K' (a.put o.dst undef) w)
    (h' : ∀ K' : Act → World → Prop, Shut (∀ a w, ((listed.setIfInBounds k true).getD j true = false → S w) → wpAnyU P md ops Q S j fuel (listed.setIfInBounds k true) a w → K' a w) → if Region.wanted o' (yielded ops a.tmps) = true then Oper.wp P o' a w K' Q else K' (a.put o'.dst undef) w) :
    wpAnyU P md ops Q S j (fuel + 1) listed a w := by
  refine ⟨fun h0 => (by rw [hr] at h0; cases h0), fun q hq => ?_⟩
  rw [hr] at hq
  rcases (show q = i ∨ q = k by simpa using hq) with rfl | rfl
  · exact wpOp_step ho (fun K' hK => h K' (fun a w hS hW => hK a w ⟨hS, hW⟩))
  · exact wpOp_step ho' (fun K' hK => h' K' (fun a w hS hW => hK a w ⟨hS, hW⟩))

end Go.Proofs.YtgmmbfnmojjbkaaGreatDoor

namespace Go.Proofs.YtgmmbfnmojjbkaaGreatDoor
open Go.RowKit
set_option linter.unusedVariables false
set_option linter.unusedSimpArgs false

section
variable {P : Program} {ops : Array Oper} {Q : Exit → Act → World → Prop} {md : Region.Mode} {T : World → Prop} {js : List (Nat × (World → Prop))}

/-- Each condition is asked till its own operation has come up. -/
def Till (js : List (Nat × (World → Prop))) (listed : Array Bool) (w : World) : Prop := ∀ p ∈ js, listed.getD p.1 true = false → p.2 w

theorem Till.set {i : Nat} {listed : Array Bool} {w : World} (hij : ∀ p ∈ js, i ≠ p.1) : Till js (listed.setIfInBounds i true) w ↔ Till js listed w := by
  constructor
  · intro h p hp hl; exact h p hp (by rw [getD_set_ne true (hij p hp)]; exact hl)
  · intro h p hp hl; exact h p hp (by rwa [getD_set_ne true (hij p hp)] at hl)

def wpAnyJ (P : Program) (md : Region.Mode) (ops : Array Oper) (Q : Exit → Act → World → Prop) (js : List (Nat × (World → Prop))) : Nat → Array Bool → Act → World → Prop
  | 0, listed, a, w => Region.ready md ops listed = [] ∧ Q .normal a w
  | fuel + 1, listed, a, w =>
    (Region.ready md ops listed = [] → Q .normal a w) ∧
    ∀ i ∈ Region.ready md ops listed, wpOp P ops Q i (fun a' w' => Till js (listed.setIfInBounds i true) w' ∧ wpAnyJ P md ops Q js fuel (listed.setIfInBounds i true) a' w') a w

theorem wpAny_of_tills : ∀ (fuel : Nat) (listed : Array Bool) (a : Act) (w : World), wpAnyJ P md ops Q js fuel listed a w → wpAny P md ops Q fuel listed a w
  | 0, _, _, _, h => h
  | fuel + 1, _, _, _, h => ⟨h.1, fun i hi => wpOp_mono (fun a' w' h' => wpAny_of_tills fuel _ a' w' h'.2) (h.2 i hi)⟩

theorem wpAnyJ_first {i j : Nat} {S : World → Prop} {oi : Oper} {v : Value} (hi : ops[i]? = some oi) (hsel : ∀ (j : Nat) (o : Oper) cs b, ops[j]? = some o → o.op ≠ .select cs b)
    (hQ : ∀ c a w, Q (.panic c) (a.put oi.dst v) w → Q (.panic c) a w) (hij : ∀ p ∈ js, i ≠ p.1) (hT : (∀ w, T w) ∨ ((j, S) ∈ js ∧ (∀ w, S w → T w) ∧ ∃ oj, ops[j]? = some oj ∧ ∃ e ∈ oj.after, Region.binds md e = true ∧ e.on = i)) :
    ∀ (fuel : Nat) (listed : Array Bool) (a : Act) (w : World),
      (∀ k ok, ops[k]? = some ok → k ≠ i → listed.getD k true = false → (∀ e ∈ ok.after, Region.binds md e = true → e.on ≠ i) → oi.apart ops ok = true) →
      i ∈ Region.ready md ops listed → ((∀ w, T w) ∨ listed.getD j true = false) → YieldsIf P ops T oi v a → Till js listed w →
      wpAnyJ P md ops Q js fuel (listed.setIfInBounds i true) (a.put oi.dst v) w → wpAnyJ P md ops Q js (fuel + 1) listed a w := by
  have hTw : ∀ (listed : Array Bool) (w : World), ((∀ w, T w) ∨ listed.getD j true = false) → Till js listed w → T w := fun listed w h hS => by
    rcases hT with h1 | ⟨hm, h1, _⟩
    · exact h1 w
    · rcases h with h | h
      · exact h w
      · exact h1 w (hS _ hm h)
  intro fuel
  induction fuel with
  | zero =>
    intro listed a w _ hr hj hy hS H
    refine ⟨fun h => (by rw [h] at hr; cases hr), fun k hk => ?_⟩
    by_cases hki : k = i
    · subst hki; exact hy.wpOp hi (hTw listed w hj hS) ⟨(Till.set hij).2 hS, H⟩
    · have := ready_mono hk hki
      rw [H.1] at this
      cases this
  | succ fuel ih =>
    intro listed a w hfree hr hj hy hS H
    refine ⟨fun h => (by rw [h] at hr; cases hr), fun k hk => ?_⟩
    by_cases hki : k = i
    · subst hki; exact hy.wpOp hi (hTw listed w hj hS) ⟨(Till.set hij).2 hS, H⟩
    · have h1 := H.2 k (ready_mono hk hki)
      obtain ⟨hkun, ok, hok, hall⟩ := mem_ready.1 hk
      have hnot : ∀ e ∈ ok.after, Region.binds md e = true → e.on ≠ i := fun e he hb heq => by
        have h1 := hall e he hb
        have h0 := (mem_ready.1 hr).1
        rw [heq] at h1
        rcases Nat.lt_or_ge i listed.size with h' | h'
        · simp [h'] at h0 h1; rw [h0] at h1; cases h1
        · simp [Array.getElem?_eq_none h'] at h1
      have h2 := wpOp_putIf hok (hfree k ok hok hki hkun hnot) (fun cs b => hsel i oi cs b hi) (fun cs b => hsel k ok cs b hok) hQ hy h1
      have hfree' : ∀ q oq, ops[q]? = some oq → q ≠ i → (listed.setIfInBounds k true).getD q true = false →
          (∀ e ∈ oq.after, Region.binds md e = true → e.on ≠ i) → oi.apart ops oq = true := fun q oq hq hqi hun hno => by
        refine hfree q oq hq hqi ?_ hno
        by_cases hkq : k = q
        · subst hkq; exact hkun
        · rw [getD_set_ne true hkq] at hun; exact hun
      have hj' : (∀ w, T w) ∨ (listed.setIfInBounds k true).getD j true = false := by
        rcases hT with h | ⟨_, _, oj, hoj, e, he, hb, heq⟩
        · exact .inl h
        · rcases hj with h | h
          · exact .inl h
          · refine .inr ?_
            have hkj : k ≠ j := by
              rintro rfl
              rw [hok] at hoj
              injection hoj with hoj
              subst hoj
              exact hnot e he hb heq
            rw [getD_set_ne true hkj]; exact h
      refine wpOp_mono (fun a' w' h3 => ?_) h2
      have hS' : Till js (listed.setIfInBounds k true) w' := by
        have h4 := h3.2.1
        rw [Array.setIfInBounds_comm _ _ (Ne.symm hki)] at h4
        exact (Till.set hij).1 h4
      refine ⟨hS', ih (listed.setIfInBounds k true) a' w' hfree' (ready_mono hr (Ne.symm hki)) hj' h3.1 hS' ?_⟩
      rw [Array.setIfInBounds_comm _ _ hki]
      exact h3.2.2

theorem wpAnyJ_pure {i : Nat} {oi : Oper} {v : Value} {fuel : Nat} {listed : Array Bool} {a : Act} {w : World} (hi : ops[i]? = some oi)
    (hs : Region.noSelect ops = true) (hf : Region.free md ops listed i = true) (hr : (Region.ready md ops listed).contains i = true) (hij : ∀ p ∈ js, i ≠ p.1)
    (hQ : ∀ c a w, Q (.panic c) (a.put oi.dst v) w → Q (.panic c) a w) (hy : YieldsIf P ops (fun _ => True) oi v a) (hS : Till js listed w)
    (h : wpAnyJ P md ops Q js fuel (listed.setIfInBounds i true) (a.put oi.dst v) w) : wpAnyJ P md ops Q js (fuel + 1) listed a w :=
  wpAnyJ_first (j := 0) (S := fun _ => True) hi (Region.noSelect_spec hs) hQ hij (.inl fun _ => trivial) fuel listed a w (Region.free_spec hi hf) (by simpa using hr) (.inl fun _ => trivial) hy hS h

theorem wpAnyJ_load {i j : Nat} {S : World → Prop} {oi oj : Oper} {v : Value} {fuel : Nat} {listed : Array Bool} {a : Act} {w : World} (hm : (j, S) ∈ js) (hi : ops[i]? = some oi) (hoj : ops[j]? = some oj)
    (hs : Region.noSelect ops = true) (hf : Region.free md ops listed i = true) (hr : (Region.ready md ops listed).contains i = true) (hij : ∀ p ∈ js, i ≠ p.1) (hw : oj.after.toList.any (fun e => Region.binds md e && (e.on == i)) = true) (hl : listed.getD j true = false)
    (hQ : ∀ c a w, Q (.panic c) (a.put oi.dst v) w → Q (.panic c) a w) (hy : YieldsIf P ops S oi v a) (hS : Till js listed w)
    (h : wpAnyJ P md ops Q js fuel (listed.setIfInBounds i true) (a.put oi.dst v) w) : wpAnyJ P md ops Q js (fuel + 1) listed a w := by
  refine wpAnyJ_first (T := S) (j := j) (S := S) hi (Region.noSelect_spec hs) hQ hij (.inr ⟨hm, fun _ h => h, oj, hoj, ?_⟩) fuel listed a w (Region.free_spec hi hf) (by simpa using hr) (.inr hl) hy hS h
  obtain ⟨e, he, hb⟩ := List.any_eq_true.1 hw
  simp only [Bool.and_eq_true, beq_iff_eq] at hb
  exact ⟨e, by simpa using he, hb.1, hb.2⟩

theorem wpAnyJ_one {i : Nat} {o : Oper} {fuel : Nat} {listed : Array Bool} {a : Act} {w : World} (hr : Region.ready md ops listed = [i]) (ho : ops[i]? = some o)
    (h : ∀ K' : Act → World → Prop, Shut (∀ a w, Till js (listed.setIfInBounds i true) w → wpAnyJ P md ops Q js fuel (listed.setIfInBounds i true) a w → K' a w) → if Region.wanted o (yielded ops a.tmps) = true then Oper.wp P o a w K' Q else K' (a.put o.dst undef) w) :
    wpAnyJ P md ops Q js (fuel + 1) listed a w := by
  refine ⟨fun h0 => (by rw [hr] at h0; cases h0), fun k hk => ?_⟩
  rw [hr] at hk
  obtain rfl : k = i := by simpa using hk
  exact wpOp_step ho (fun K' hK => h K' (fun a w hS hW => hK a w ⟨hS, hW⟩))

theorem wpAnyJ_done {listed : Array Bool} {a : Act} {w : World} (hr : Region.ready md ops listed = []) (h : Q .normal a w) :
    ∀ fuel, wpAnyJ P md ops Q js fuel listed a w
  | 0 => ⟨hr, h⟩
  | _ + 1 => ⟨fun _ => h, by rw [hr]; simp⟩

theorem wp_region_tills {id : Nat} {a : Act} {w : World} (hm : P.follows .mixedOrders = true)
    (h : wpAnyJ P .any ops Q js ops.size (Array.replicate ops.size false) a w.drew) : (Code.region id ops true).wp P Q a w :=
  wp_region_any hm (wpAny_of_tills _ _ _ _ h)

end

end Go.Proofs.YtgmmbfnmojjbkaaGreatDoor
