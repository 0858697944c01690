import Derived.Test.YtldpnhlifgkmiaaDoorKE
import Derived.Test.YtldpnhlifgkmiaaDoorW6
namespace Go.Proofs.YtldpnhlifgkmiaaDoor
open Go.RowKit
set_option linter.unusedVariables false
set_option linter.unusedSimpArgs false

theorem fit_kA : kA.Fit := ⟨by simp [kA], by simp [kA], by simp [kA], by simp [kA], by decide⟩
theorem fit_kN : kN.Fit := ⟨by simp [kN], by simp [kN], by simp [kN], by simp [kN], by decide⟩
theorem fit_kP : kP.Fit := ⟨by simp [kP], by simp [kP], by simp [kP], by simp [kP], by decide⟩
theorem fit_kH : kH.Fit := ⟨by simp [kH], by simp [kH], by simp [kH], by simp [kH], by decide⟩
theorem rep_kA (w : World) (B : Nat) : RepV w B kA .nil (.agg #[.int .i64 1, .int .i64 0, .string ⟨#[97]⟩, .slice none 0 0]) := ⟨fit_kA, none, 0, 0, 0, rfl, ⟨Nat.zero_le _, Nat.zero_le _⟩, .inl rfl, trivial⟩
theorem rep_kN (w : World) (B : Nat) : RepV w B kN .nil (.agg #[.int .i64 2, .int .i64 1, .string ⟨#[]⟩, .slice none 0 0]) := ⟨fit_kN, none, 0, 0, 0, rfl, ⟨Nat.zero_le _, Nat.zero_le _⟩, .inl rfl, trivial⟩

/-- The row of the pair's kids in block g. -/
theorem rep_pair (w : World) : RepG (w.alloc (.cells #[.int .i64 2, .int .i64 1, .string ⟨#[]⟩, .slice none 0 0, .int .i64 1, .int .i64 0, .string ⟨#[97]⟩, .slice none 0 0] 29)) (fun b => b < w.heap.size + 1) fPa w.heap.size 0 := by
  have c : ∀ o, (w.alloc (.cells #[.int .i64 2, .int .i64 1, .string ⟨#[]⟩, .slice none 0 0, .int .i64 1, .int .i64 0, .string ⟨#[97]⟩, .slice none 0 0] 29)).cell? ⟨w.heap.size, o, none⟩ = (#[.int .i64 2, .int .i64 1, .string ⟨#[]⟩, .slice none 0 0, .int .i64 1, .int .i64 0, .string ⟨#[97]⟩, .slice none 0 0] : Array Value)[o]? := fun o => by simp [go_sem]
  exact ⟨by omega, fit_kN, by rw [c]; rfl, by rw [c]; rfl, by rw [c]; rfl, ⟨none, 0, 0, 0, by rw [c]; rfl, ⟨Nat.zero_le _, Nat.zero_le _⟩, .inl rfl, trivial⟩, by omega, fit_kA, by rw [c]; rfl, by rw [c]; rfl, by rw [c]; rfl, ⟨none, 0, 0, 0, by rw [c]; rfl, ⟨Nat.zero_le _, Nat.zero_le _⟩, .inl rfl, trivial⟩, trivial⟩
theorem rep_hash (w : World) : RepG (w.alloc (.cells #[.int .i64 2, .int .i64 1, .string ⟨#[]⟩, .slice none 0 0] 29)) (fun b => b < w.heap.size + 1) fNo w.heap.size 0 := by
  have c : ∀ o, (w.alloc (.cells #[.int .i64 2, .int .i64 1, .string ⟨#[]⟩, .slice none 0 0] 29)).cell? ⟨w.heap.size, o, none⟩ = (#[.int .i64 2, .int .i64 1, .string ⟨#[]⟩, .slice none 0 0] : Array Value)[o]? := fun o => by simp [go_sem]
  exact ⟨by omega, fit_kN, by rw [c]; rfl, by rw [c]; rfl, by rw [c]; rfl, ⟨none, 0, 0, 0, by rw [c]; rfl, ⟨Nat.zero_le _, Nat.zero_le _⟩, .inl rfl, trivial⟩, trivial⟩

def kdP (g : Nat) : Kd := ⟨0, 0, kP, fPa, some ⟨g, 0, none⟩, 2, g, 0⟩
def kdH (g : Nat) : Kd := ⟨0, 0, kH, fNo, some ⟨g, 0, none⟩, 1, g, 0⟩
theorem ok_kdP {w w' : World} (h : Below (w.heap.size + 1) (w.alloc (.cells #[.int .i64 2, .int .i64 1, .string ⟨#[]⟩, .slice none 0 0, .int .i64 1, .int .i64 0, .string ⟨#[97]⟩, .slice none 0 0] 29)) w') : (kdP w.heap.size).Ok w' (fun b => b < w'.heap.size) ∧ (kdP w.heap.size).Ar := by
  have hs := h.size
  rw [World.heap_size_alloc'] at hs
  exact ⟨⟨fit_kP, by simp [kdP, fPa, flen], .inr rfl, RepG.keep (fun b hb => by omega) (fun b o hb => h.cell (by simpa using hb)) (rep_pair w)⟩, may_ar _ _ may_kP⟩
theorem ok_kdH {w w' : World} (h : Below (w.heap.size + 1) (w.alloc (.cells #[.int .i64 2, .int .i64 1, .string ⟨#[]⟩, .slice none 0 0] 29)) w') : (kdH w.heap.size).Ok w' (fun b => b < w'.heap.size) ∧ (kdH w.heap.size).Ar := by
  have hs := h.size
  rw [World.heap_size_alloc'] at hs
  exact ⟨⟨fit_kH, by simp [kdH, fNo, flen], .inr rfl, RepG.keep (fun b hb => by omega) (fun b o hb => h.cell (by simpa using hb)) (rep_hash w)⟩, may_ar _ _ may_kH⟩

theorem canEnd_true {w : World} {us : List (Nd × Fo)} {a : Nd} {l : Fo} (h : Knows us a l) {e : Ending} {w' : World} (hc : CanEnd w us a l e w') : e = .returned (.bool true) ∧ Below w.heap.size w w' := by
  obtain ⟨b, rfl, hb, h2⟩ := hc
  exact ⟨by rw [hb.2 h], h2⟩
theorem canEnd_false {w : World} {us : List (Nd × Fo)} {a : Nd} {l : Fo} (h : ¬ Knows us a l) {e : Ending} {w' : World} (hc : CanEnd w us a l e w') : e = .returned (.bool false) ∧ Below w.heap.size w w' := by
  obtain ⟨b, rfl, hb, h2⟩ := hc
  cases b with
  | true => exact absurd (hb.1 rfl) h
  | false => exact ⟨rfl, h2⟩

theorem refN_lit (n : Int) (w : World) : Calls Tryd.prog 18 #[.int .i64 n] w fun e w' => e = .returned (.agg #[.int .i64 2, .int .i64 n, .string ⟨#[]⟩, .slice none 0 0]) ∧ Below w.heap.size w w' := refN_any n w
theorem refT_lit (k : Int) (A : Option Addr) (len cap : Nat) (w : World) : Calls Tryd.prog 20 #[.int .i64 k, .slice A len cap] w fun e w' => e = .returned (.agg #[.int .i64 k, .int .i64 0, .string ⟨#[]⟩, .slice A len cap]) ∧ Below w.heap.size w w' := refT_any k A len cap w

theorem Tab10.keep {w w' : World} (h : Tab10 w.heap.size w) (hb : Below w.heap.size w w') : Tab10 w'.heap.size w' := fun W hW => h W (hb.trans (hW.mono hb.size))

set_option maxRecDepth 100000 in
set_option maxHeartbeats 4000000 in
theorem known3_any (w : World) (htab : Tab10 w.heap.size w) : Calls Tryd.prog 9 #[] w fun e w' => e = .returned (.bool true) ∧ Below w.heap.size w w' := by
  have HTB : Hid (Tab10 w.heap.size w) := htab
  clear htab
  go_enter Tryd.func9, Tryd.ntmps9
  go_wp2_with fail
  refine (refA_any _ _).mono ?_
  rintro e w1 ⟨rfl, ho1⟩
  go_wp2_with fail
  refine (refN_lit _ _).mono ?_
  rintro e w2 ⟨rfl, ho2⟩
  have hb2 : Below w.heap.size w w2 := ho1.trans (ho2.mono ho1.size)
  clear ho1 ho2
  go_wp2_with fail
  obtain ⟨wB, hwB⟩ : ∃ W : World, W = (w2.alloc (.cells #[.int .i64 1, .int .i64 0, .string ⟨#[97]⟩, .slice none 0 0] 29)).alloc (.cells #[.int .i64 2, .int .i64 1, .string ⟨#[]⟩, .slice none 0 0] 29) := ⟨_, rfl⟩
  have hxA : Box4 wB w2.heap.size (.int .i64 1) (.int .i64 0) (.string ⟨#[97]⟩) (.slice none 0 0) := by rw [hwB]; exact (Box4.new w2 _ _ _ _ _).alloc _
  have hxN : Box4 wB (w2.heap.size + 1) (.int .i64 2) (.int .i64 1) (.string ⟨#[]⟩) (.slice none 0 0) := by
    rw [hwB]
    have h := Box4.new (w2.alloc (.cells #[.int .i64 1, .int .i64 0, .string ⟨#[97]⟩, .slice none 0 0] 29)) (.int .i64 2) (.int .i64 1) (.string ⟨#[]⟩) (.slice none 0 0) 29
    simpa using h
  have hsB : wB.heap.size = w2.heap.size + 1 + 1 := by rw [hwB]; simp
  have hbB : Below w.heap.size w wB := by rw [hwB]; exact hb2.trans (Below.alloc (Below.alloc (Below.refl _ _) hb2.size _) (by have := hb2.size; simp; omega) _)
  rw [← hwB, ← hsB]
  clear hwB hb2
  have HXA : Hid (Box4 wB w2.heap.size (.int .i64 1) (.int .i64 0) (.string ⟨#[97]⟩) (.slice none 0 0)) := hxA
  have HXN : Hid (Box4 wB (w2.heap.size + 1) (.int .i64 2) (.int .i64 1) (.string ⟨#[]⟩) (.slice none 0 0)) := hxN
  have HSB : Hid (wB.heap.size = w2.heap.size + 1 + 1) := hsB
  clear hxA hxN hsB
  refine (refT_lit _ _ _ _ _).mono ?_
  rintro e w3 ⟨rfl, ho3⟩
  rw [World.heap_size_alloc'] at ho3
  have hP := ok_kdP ho3
  have HP : Hid ((kdP wB.heap.size).Ok w3 (fun b => b < w3.heap.size) ∧ (kdP wB.heap.size).Ar) := hP
  have hb3 : Below wB.heap.size wB w3 := (Below.alloc (Below.refl _ _) (Nat.le_refl _) _).trans (ho3.mono (by omega))
  clear hP ho3
  go_wp2_with fail
  have hsl := sl_one w3 (kdP wB.heap.size) HP.out
  have hb4 : Below wB.heap.size wB (w3.alloc (.cells #[.int .i64 7, .int .i64 0, .string ⟨#[]⟩, .slice (some ⟨wB.heap.size, 0, none⟩) 2 2] 29)) := Below.alloc hb3 hb3.size _
  have hmP : ∀ k ∈ [kdP wB.heap.size], may k.a k.l = true := fun k hk => by simp only [List.mem_singleton] at hk; rw [hk]; exact may_kP
  refine Calls.mono (open_any [kdP wB.heap.size] _ _ hsl (fun k hk => may_dmay (hmP k hk)) (by simp [nodesK, kdP, fPa, nodesF]) (by simp) (HTB.out.keep (hbB.trans (hb4.mono hbB.size)))) ?_
  intro e w5 he
  obtain ⟨M, u, rfl, hslM, hmM, hri, hcl, _, _, ho5⟩ := he.clos hmP
  have hb5 : Below wB.heap.size wB w5 := hb4.trans (ho5.mono hb4.size)
  have hl3 := nodes3 hri hcl
  obtain ⟨LA, lc, rfl, _⟩ := hslM.len
  have HSM : Hid (SlT w5 (.slice LA M.length lc) M) := hslM
  have HMM : Hid (∀ k ∈ M, may k.a k.l = true) := hmM
  have HCL : Hid (Clos [(kP, fPa)] (tms M)) := hcl
  have HL3 : Hid (M.length = 3) := hl3
  rw [hl3]
  clear he hslM hmM hri hcl hl3 hsl hmP ho5 hb4 hb3
  have HC1 : Hid (∀ W, Below w5.heap.size w5 W → Calls Tryd.prog 15 #[.slice none 0 0, .agg #[.int .i64 1, .int .i64 0, .string ⟨#[97]⟩, .slice none 0 0]] W fun e w' => e = .returned (.bool true) ∧ Below w5.heap.size w5 w') := fun W hW =>
    (knowCan_any [] _ kA .nil _ 0 W (sl_none W) (fun k hk => by cases hk) (by simp [nodesK]) (by simp) (rep_kA W 0) (Nat.zero_le _) may_kA (HTB.out.keep (hbB.trans ((hb5.trans (hW.mono hb5.size)).mono hbB.size)))).mono fun e w' h => ⟨(canEnd_true knows_kA h).1, hW.trans ((canEnd_true knows_kA h).2.mono hW.size)⟩
  have HC2 : Hid (∀ W, Below w5.heap.size w5 W → Calls Tryd.prog 15 #[.slice none 0 0, .agg #[.int .i64 2, .int .i64 1, .string ⟨#[]⟩, .slice none 0 0]] W fun e w' => e = .returned (.bool false) ∧ Below w5.heap.size w5 w') := fun W hW =>
    (knowCan_any [] _ kN .nil _ 0 W (sl_none W) (fun k hk => by cases hk) (by simp [nodesK]) (by simp) (rep_kN W 0) (Nat.zero_le _) may_kN (HTB.out.keep (hbB.trans ((hb5.trans (hW.mono hb5.size)).mono hbB.size)))).mono fun e w' h => ⟨(canEnd_false knows_kN h).1, hW.trans ((canEnd_false knows_kN h).2.mono hW.size)⟩
  have HC3 : Hid (∀ W g, Below w5.heap.size w5 W → ((kdH g).Ok W (fun b => b < W.heap.size) ∧ (kdH g).Ar) → Calls Tryd.prog 15 #[.slice LA 3 lc, .agg #[.int .i64 3, .int .i64 0, .string ⟨#[]⟩, .slice (some ⟨g, 0, none⟩) 1 1]] W fun e w' => e = .returned (.bool true) ∧ Below w5.heap.size w5 w') := fun W g hW hok => by
    have h := HSM.out
    rw [HL3.out] at h
    have hn : nodesK M ≤ 50000 := by have h1 := nodesK_le M HMM.out; have h2 := HL3.out; omega
    have hkn := knows_kH HCL.out rfl
    exact (knowCan_any M _ kH fNo _ W.heap.size W (h.below hW) HMM.out hn (by have := HL3.out; omega) (Kd.rep hok.1) (Nat.le_refl _) may_kH (HTB.out.keep (hbB.trans ((hb5.trans (hW.mono hb5.size)).mono hbB.size)))).mono fun e w' h => ⟨(canEnd_true hkn h).1, hW.trans ((canEnd_true hkn h).2.mono hW.size)⟩
  have HC4 : Hid (∀ W g (v : Value), Below w5.heap.size w5 W → SlT W v [kdH g] → Calls Tryd.prog 15 #[v, .agg #[.int .i64 2, .int .i64 1, .string ⟨#[]⟩, .slice none 0 0]] W fun e w' => e = .returned (.bool false) ∧ Below w5.heap.size w5 w') := fun W g v hW hsl =>
    (knowCan_any [kdH g] _ kN .nil _ 0 W hsl (fun k hk => by simp only [List.mem_singleton] at hk; rw [hk]; exact may_kH) (by simp [nodesK, kdH, fNo, nodesF]) (by simp) (rep_kN W 0) (Nat.zero_le _) may_kN (HTB.out.keep (hbB.trans ((hb5.trans (hW.mono hb5.size)).mono hbB.size)))).mono fun e w' h => ⟨(canEnd_false knows_no h).1, hW.trans ((canEnd_false knows_no h).2.mono hW.size)⟩
  have HT : Hid (∀ W, Below w5.heap.size w5 W → Calls Tryd.prog 20 #[.int .i64 3, .slice (some ⟨W.heap.size, 0, none⟩) 1 1] (W.alloc (.cells #[.int .i64 2, .int .i64 1, .string ⟨#[]⟩, .slice none 0 0] 29)) fun e w' => e = .returned (.agg #[.int .i64 3, .int .i64 0, .string ⟨#[]⟩, .slice (some ⟨W.heap.size, 0, none⟩) 1 1]) ∧ Below w5.heap.size w5 w' ∧ ((kdH W.heap.size).Ok w' (fun b => b < w'.heap.size) ∧ (kdH W.heap.size).Ar)) := fun W hW =>
    (refT_lit 3 _ 1 1 _).mono fun e w' h => by
      obtain ⟨h1, h2⟩ := h
      rw [World.heap_size_alloc'] at h2
      exact ⟨h1, (Below.alloc hW hW.size _).trans (h2.mono (by have := hW.size; omega)), ok_kdH h2⟩
  have HS : Hid (∀ W, Below w5.heap.size w5 W → Box4 W w2.heap.size (.int .i64 1) (.int .i64 0) (.string ⟨#[97]⟩) (.slice none 0 0) ∧ Box4 W (w2.heap.size + 1) (.int .i64 2) (.int .i64 1) (.string ⟨#[]⟩) (.slice none 0 0) ∧ Below w5.heap.size w5 W) := fun W hW =>
    ⟨(HXA.out.below hb5).below hW, (HXN.out.below hb5).below hW, hW⟩
  clear HSM HMM HCL HL3 HP
  go_wp2_with fail
  go_region_held3 (fun w' => Box4 w' w2.heap.size (.int .i64 1) (.int .i64 0) (.string ⟨#[97]⟩) (.slice none 0 0) ∧ Box4 w' (w2.heap.size + 1) (.int .i64 2) (.int .i64 1) (.string ⟨#[]⟩) (.slice none 0 0) ∧ Below w5.heap.size w5 w')
    (first | assumption | exact HS.out _ (Below.drew (Below.refl _ _)) | exact HS.out _ ho6 | exact HS.out _ ho7 | exact HS.out _ (Below.alloc ho7 (Below.size ho7) _) | exact HS.out _ ho8 | exact HS.out _ ho9 | exact HS.out _ (Below.alloc ho9 (Below.size ho9) _) | exact HS.out _ ho10 | exact HS.out _ (Below.alloc ho10 (Below.size ho10) _) | exact HS.out _ ho11)
    (first
      | (go_at_call_of 20 (Value.slice (some ⟨w9.heap.size, 0, none⟩) 1 1); refine (HT.out w9 ho9).mono ?_; rintro e w10 ⟨rfl, ho10, hok10⟩)
      | (go_at_call_of 20 (Value.slice (some ⟨w7.heap.size, 0, none⟩) 1 1); refine (HT.out w7 ho7).mono ?_; rintro e w8 ⟨rfl, ho8, hok8⟩)
      | (go_at_call_of 15 (Value.string ⟨#[97]⟩); refine (HC1.out _ (Below.drew (Below.refl _ _))).mono ?_; rintro e w6 ⟨rfl, ho6⟩)
      | (go_at_call_of 15 (Value.slice LA 3 lc); refine (HC3.out _ w7.heap.size ho8 hok8).mono ?_; rintro e w9 ⟨rfl, ho9⟩)
      | (go_at_call_of 15 (Value.slice (some ⟨w10.heap.size, 0, none⟩) 1 1); refine (HC4.out _ w9.heap.size _ (Below.alloc ho10 (Below.size ho10) _) (sl_one w10 (kdH w9.heap.size) hok10)).mono ?_; rintro e w11 ⟨rfl, ho11⟩)
      | (go_at_call 15; refine (HC2.out w6 ho6).mono ?_; rintro e w7 ⟨rfl, ho7⟩))
  go_wp2_with fail
  go_ret
  exact ⟨rfl, hbB.trans ((hb5.trans (ho11.mono hb5.size)).mono hbB.size)⟩

end Go.Proofs.YtldpnhlifgkmiaaDoor

namespace Go.Proofs.YtldpnhlifgkmiaaDoor
open Go.RowKit
set_option linter.unusedVariables false
set_option linter.unusedSimpArgs false

/-- A term by itself, as one of a row. -/
theorem RepVG.kd {w : World} {S : Nat → Prop} {a : Nd} {l : Fo} {v : Value} (h : RepVG w S a l v) : ∃ k : Kd, k.a = a ∧ k.l = l ∧ v = k.val ∧ k.Ok w S := by
  obtain ⟨hf, A, cap, b, o, hv, hn, hA, hl⟩ := h
  exact ⟨⟨0, 0, a, l, A, cap, b, o⟩, rfl, rfl, hv, hf, hn, hA, hl⟩

theorem bool_same {b c : Bool} {P : Prop} (hb : b = true ↔ P) (hc : c = true ↔ P) : b = c := by
  cases b with
  | true => exact (hc.2 (hb.1 rfl)).symm
  | false => cases c with
    | true => exact absurd (hb.2 (hc.1 rfl)) (by decide)
    | false => rfl

/-- A row of one's own with one more. -/
theorem sl_append {B : Nat} {w6 w7 w8 : World} {v v8 : Value} {ks : List Kd} {kd : Kd} (ht : TermsAt w6 B v ks) (hb7 : Below w6.heap.size w6 w7) (hkd : kd.Ok w7 (fun b => w6.heap.size ≤ b ∧ b < w7.heap.size)) (hmk : may kd.a kd.l = true)
    (hown : w8.ownsRow B 29 4 v8 (ks.length + 1) (rowOf ks ++ kd.cells)) (hgrow : (w7.alloc (.cells #[.int .i64 kd.a.kind, .int .i64 kd.a.n, .string kd.a.s, .slice kd.A (flen kd.l) kd.cap] 29)).grownBy w8 v.ownBlock) :
    SlT w8 v8 (ks ++ [kd]) ∧ ∀ k ∈ ks ++ [kd], may k.a k.l = true := by
  have hs := hgrow.size
  rw [World.heap_size_alloc'] at hs
  have hs7 := hb7.size
  have hc : ∀ b o, b < w7.heap.size → v.ownBlock ≠ some b → w8.cell? ⟨b, o, none⟩ = w7.cell? ⟨b, o, none⟩ := fun b o hb hv => by
    rw [World.cell?_of_block (w := w7.alloc _) (a := ⟨b, o, none⟩) (hgrow.block b (by rw [World.heap_size_alloc']; omega) (fun e => hv e.symm))]
    exact World.cell?_of_block (Below.heap_alloc _ _ _ hb)
  have hm : ∀ k ∈ ks ++ [kd], may k.a k.l = true := fun k hk => by
    rcases List.mem_append.1 hk with hk | hk
    · exact (ht.2 k hk).2
    · simp only [List.mem_singleton] at hk; rw [hk]; exact hmk
  refine ⟨?_, hm⟩
  have hok : ∀ k ∈ ks ++ [kd], k.Ok w8 (fun b => b < w8.heap.size) ∧ k.Ar := fun k hk => by
    refine ⟨?_, may_ar _ _ (hm k hk)⟩
    rcases List.mem_append.1 hk with hk | hk
    · exact (ht.2 k hk).1.keep (fun b hb => by have := hb.2.1; omega) (fun b o hb => (hc b o (by have := hb.2.1; omega) hb.2.2).trans (hb7.cell (by simpa using hb.2.1)))
    · simp only [List.mem_singleton] at hk
      subst hk
      exact hkd.keep (fun b hb => by omega) (fun b o hb => hc b o hb.2 (fun e => by have := ht.1.lt b e; omega))
  have hr : rowOf (ks ++ [kd]) = rowOf ks ++ kd.cells := by rw [rowOf_append]; simp [rowOf]
  rcases hown.2 with ⟨h1, h2⟩ | ⟨g, cap, cur, h3, h4, _, h5, h6, _⟩
  · omega
  · rw [h3] at hown
    refine .inr ⟨g, cap, by rw [h3, List.length_append]; rfl, (hown.lt g rfl).2, fun t ht => ?_, hok⟩
    rw [hr]
    exact hown.cellAt t (by simp at ht; omega)

end Go.Proofs.YtldpnhlifgkmiaaDoor
