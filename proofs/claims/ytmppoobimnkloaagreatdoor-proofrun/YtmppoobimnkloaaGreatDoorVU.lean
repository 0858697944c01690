import Derived.Test.YtmppoobimnkloaaGreatDoorVM
namespace Go.Proofs.YtmppoobimnkloaaGreatDoor
open Go.RowKit
set_option linter.unusedVariables false
set_option linter.unusedSimpArgs false

theorem onP_ok {o : Option (Nd × Fo)} {f : Nd × Fo → Except Int (Nd × Fo)} {t : Nd × Fo} (h : onP o f = .ok t) : ∃ u, o = some u ∧ f u = .ok t := by
  cases o with
  | none => simp [onP] at h
  | some u => exact ⟨u, rfl, h⟩
theorem atL_mem {l : List (Nd × Fo)} {x : Int} {t : Nd × Fo} (h : atL l x = some t) : t ∈ l := by
  unfold atL at h
  split at h
  · exact List.mem_of_getElem? h
  · cases h
theorem openP_ok {kk : Int} {i : Nat} {u t : Nd × Fo} (h : openP kk i u = .ok t) : u.1.kind = kk ∧ (kidL u.2)[i]? = some t := by
  unfold openP at h
  split at h
  · rename_i hk
    refine ⟨hk, ?_⟩
    cases hj : (kidL u.2)[i]? with
    | none => rw [hj] at h; simp at h
    | some v => rw [hj] at h; simp at h; rw [h]
  · cases h
/-- What comes out of what is known is known. -/
theorem Knows.outs {us : List (Nd × Fo)} {u t : Nd × Fo} (hm : may u.1 u.2 = true) (hk : Knows us u.1 u.2) (ht : t ∈ Go.Proofs.YtmppoobimnkloaaGreatDoor.outs u) : Knows us t.1 t.2 := by
  have hkd := outs_kind hm ht
  rcases hk with h1 | h1 | h1
  · omega
  · have := Fol.out h1 (u := nm t) (by rw [show nm (u.1, u.2) = nm u from rfl, outs_nm]; exact List.mem_map_of_mem ht)
    exact .inr (.inl this)
  · exact CanF.mem h1.2 t (List.mem_of_mem_drop ht)
theorem step_knows {us rs : List (Nd × Fo)} {m : Mv} {t : Nd × Fo} (hr : ∀ x ∈ rs, may x.1 x.2 = true ∧ Knows us x.1 x.2) (h : stepP us rs m = .ok t) : may t.1 t.2 = true ∧ Knows us t.1 t.2 := by
  unfold stepP at h
  cases hraw : rawP us rs m with
  | error e => rw [hraw] at h; simp [mayP] at h
  | ok u =>
    rw [hraw] at h
    unfold mayP at h
    simp only at h
    split at h
    · rename_i hmay
      injection h with h
      subst h
      refine ⟨hmay, ?_⟩
      unfold rawP at hraw
      split at hraw
      · obtain ⟨v, h1, h2⟩ := onP_ok hraw
        injection h2 with h2
        subst h2
        exact .inr (.inl (Fol.base ⟨v, atL_mem h1, rfl⟩))
      · split at hraw
        · injection hraw with hraw
          subst hraw
          exact .inl rfl
        · split at hraw
          · obtain ⟨v, h1, h2⟩ := onP_ok hraw
            obtain ⟨h3, h4⟩ := openP_ok h2
            have hv := hr v (atL_mem h1)
            exact Knows.outs hv.1 hv.2 (by unfold Go.Proofs.YtmppoobimnkloaaGreatDoor.outs skipOf; rw [if_pos h3, List.drop_zero]; exact List.mem_of_getElem? h4)
          · split at hraw
            · obtain ⟨v, h1, h2⟩ := onP_ok hraw
              obtain ⟨h3, h4⟩ := openP_ok h2
              have hv := hr v (atL_mem h1)
              exact Knows.outs hv.1 hv.2 (by unfold Go.Proofs.YtmppoobimnkloaaGreatDoor.outs skipOf; rw [if_pos h3, List.drop_zero]; exact List.mem_of_getElem? h4)
            · split at hraw
              · obtain ⟨v, h1, h2⟩ := onP_ok hraw
                obtain ⟨h3, h4⟩ := openP_ok h2
                have hv := hr v (atL_mem h1)
                refine Knows.outs hv.1 hv.2 ?_
                unfold Go.Proofs.YtmppoobimnkloaaGreatDoor.outs skipOf
                rw [if_neg (by omega), if_pos h3]
                exact List.mem_of_getElem? (i := 0) (by rw [List.getElem?_drop]; exact h4)
              · split at hraw
                · rename_i hk
                  obtain ⟨v, h1, h2⟩ := onP_ok hraw
                  injection h2 with h2
                  subst h2
                  have hv := hr v (atL_mem h1)
                  refine .inr (.inr ⟨by show m.kind - 3 ≠ 2; omega, CanF.of fun x hx => ?_⟩)
                  simp only [kidL, List.mem_singleton] at hx
                  rw [hx]; exact hv.2
                · split at hraw
                  · rename_i hk
                    obtain ⟨v, h1, h2⟩ := onP_ok hraw
                    obtain ⟨x, h3, h4⟩ := onP_ok h2
                    injection h4 with h4
                    subst h4
                    have hv := hr v (atL_mem h1)
                    have hx := hr x (atL_mem h3)
                    refine .inr (.inr ⟨by show m.kind - 3 ≠ 2; omega, CanF.of fun y hy => ?_⟩)
                    simp only [kidL, List.mem_cons, List.not_mem_nil, or_false] at hy
                    rcases hy with rfl | rfl
                    · exact hv.2
                    · exact hx.2
                  · cases hraw
    · cases h
/-- What is proved can be known. -/
theorem run_knows {us : List (Nd × Fo)} : ∀ (ms : List Mv) (rs rs' : List (Nd × Fo)), (∀ x ∈ rs, may x.1 x.2 = true ∧ Knows us x.1 x.2) → runS us rs ms = .ok rs' → ∀ x ∈ rs', may x.1 x.2 = true ∧ Knows us x.1 x.2
  | [], rs, rs', hr, h => by
    rw [runS] at h
    injection h with h
    subst h
    exact hr
  | m :: r, rs, rs', hr, h => by
    rw [runS] at h
    cases hs : stepP us rs m with
    | error e => rw [hs] at h; cases h
    | ok t =>
      rw [hs] at h
      refine run_knows r (rs ++ [t]) rs' (fun x hx => ?_) h
      rcases List.mem_append.1 hx with hx | hx
      · exact hr x hx
      · simp only [List.mem_singleton] at hx; rw [hx]; exact step_knows hr hs

end Go.Proofs.YtmppoobimnkloaaGreatDoor

namespace Go.Proofs.YtmppoobimnkloaaGreatDoor
open Go.RowKit
set_option linter.unusedVariables false
set_option linter.unusedSimpArgs false

def MovesEnd (w : World) (most : Nat) (e : Ending) (w' : World) : Prop :=
  ∃ (A : Option Addr) (c : Nat) (ms : List Mv), e = .returned (.slice A ms.length c) ∧ ms.length ≤ most ∧ Below w.heap.size w w' ∧ MvsAt w' w'.heap.size ms A ∧ (∀ m ∈ ms, m.s.size ≤ maxLen) ∧ ms.length ≤ c

def MovRel (w : World) (B most : Nat) (ns : List Int) (LA : Option Addr) (cap : Nat) (kv iv : Value) (wr : World) : Prop :=
  ∃ (n k : Nat) (ms : List Mv), iv = .int .i64 (n : Int) ∧ ms.length = n ∧ n ≤ most ∧ k ≤ ns.length ∧ TapeAt wr w.heap.size LA ns.length cap k ∧ NumsAt wr B ns LA ∧ Below w.heap.size w wr ∧ wr.ownsRow (w.heap.size + 1) 26 4 kv n (rowM ms) ∧ ∀ m ∈ ms, m.s.size ≤ maxLen

theorem pick_short (i : Nat) : (List.getD ([⟨#[97]⟩, ⟨#[98]⟩, ⟨#[]⟩] : List ByteArray) i ByteArray.empty).size ≤ maxLen := by
  unfold maxLen
  match i with
  | 0 => decide
  | 1 => decide
  | 2 => decide
  | i + 3 => simp [List.getD]

theorem mov_step {w wr wZ w9 : World} {B most n k' cap : Nat} {ns : List Int} {LA : Option Addr} {ms : List Mv} {mm : Mv} {u6 v9 : Value} (hbl : Below w.heap.size w wr) (htr : w.heap.size < wr.heap.size) (hB : B ≤ w.heap.size) (hvk : ∀ q, u6.ownBlock = some q → w.heap.size + 1 ≤ q ∧ q < wr.heap.size) (O : Only w.heap.size wr wZ)
    (hms : ms.length = n) (hsh : ∀ m ∈ ms, m.s.size ≤ maxLen) (hmm : mm.s.size ≤ maxLen) (hn : n < most) (hk : k' ≤ ns.length) (ht : TapeAt wZ w.heap.size LA ns.length cap k') (hnr : NumsAt wZ B ns LA)
    (hown : w9.ownsRow (w.heap.size + 1) 26 4 v9 (n + 1) (rowM ms ++ mm.cells)) (hgrow : (wZ.alloc (.cells #[.int .i64 mm.kind, .int .i64 mm.a, .int .i64 mm.b, .string mm.s] 26)).grownBy w9 u6.ownBlock) :
    MovRel w B most ns LA cap v9 (.int .i64 ((n : Int) + 1)) w9 := by
  have hs := hgrow.size
  rw [World.heap_size_alloc'] at hs
  have hO := O.size
  have hblk : ∀ q, q ≤ w.heap.size → w9.heap[q]? = wZ.heap[q]? := fun q hq => by
    rw [hgrow.block q (by rw [World.heap_size_alloc']; omega) (fun e => by have := hvk q e.symm; omega)]
    exact Below.heap_alloc _ _ _ (by omega)
  refine ⟨n + 1, k', ms ++ [mm], by simp, by simp [hms], by omega, hk, ?_, ?_, ?_, ?_, fun m hm => ?_⟩
  · obtain ⟨q0, q1, q2, q3⟩ := ht
    have hb := hblk w.heap.size (Nat.le_refl _)
    exact ⟨by omega, by rw [World.cell?_of_block hb]; exact q1, by rw [World.cell?_of_block hb]; exact q2, by rw [World.frozen?_of_block hb]; exact q3⟩
  · rcases hnr with h | ⟨lb, lo, e, hl, hc⟩
    · exact .inl h
    · exact .inr ⟨lb, lo, e, hl, fun i hi => by rw [World.cell?_of_block (hblk lb (by omega))]; exact hc i hi⟩
  · exact hbl.trans ⟨hgrow.os.trans O.os, hgrow.tape.trans O.tape, hgrow.output.trans O.output, by omega, fun q hq => by rw [hblk q (by omega)]; exact O.block q (by omega) (by omega)⟩
  · rw [rowM_append]; simpa [rowM] using hown
  · rcases List.mem_append.1 hm with hm | hm
    · exact hsh m hm
    · simp only [List.mem_singleton] at hm; rw [hm]; exact hmm

set_option maxRecDepth 20000 in
set_option maxHeartbeats 4000000 in
theorem moves_any (ns : List Int) (LA : Option Addr) (cap B most : Nat) (mi : Int) (hmi : mi = (most : Int)) (hmost : most ≤ 100) (w : World) (hB : B ≤ w.heap.size) (hns : NumsAt w B ns LA) (hf : NumsFit ns) (hnl : ns.length ≤ 9223372036854775807) :
    Calls Tryz.prog 7 #[.slice LA ns.length cap, .int .i64 mi] w fun e w' => MovesEnd w most e w' := by
  subst hmi
  obtain ⟨i5, hi, hz0, hz1, hz2⟩ := info_get Tryz.infoMove
  go_enter Tryz.func7, Tryz.ntmps7
  go_wp2_with fail
  go_loopw [6, 7] (fun kv iv wr => MovRel w B most ns LA cap kv iv wr) (fun _ iv _ => most - (intOf iv).toNat)
  case atStart =>
    exact ⟨0, 0, [], rfl, rfl, by omega, by omega, ⟨by simp, by simp [go_sem], by simp [go_sem], by simp [go_sem]⟩, nums_below hns (Below.mono (by repeat (first | exact Below.refl _ _ | assumption | refine below_drewN ?_ _ | refine Below.drew ?_ | refine Below.alloc ?_ (by simp <;> omega) _ | refine Below.setCell ?_ (by simp <;> omega) _)) hB), (by repeat (first | exact Below.refl _ _ | assumption | refine below_drewN ?_ _ | refine Below.drew ?_ | refine Below.alloc ?_ (by simp <;> omega) _ | refine Below.setCell ?_ (by simp <;> omega) _)), World.ownsRow_nil _ _ _ _, by simp⟩
  case round =>
    obtain ⟨n, k, ms, rfl, hmn, hnm, hk, ht, hnr, hbl, hown, hsh⟩ := hrel
    have HMN : Hid (ms.length = n) := hmn
    have HOWN : Hid (wr.ownsRow (w.heap.size + 1) 26 4 u6 n (rowM ms)) := hown
    have HSH : Hid (∀ m ∈ ms, m.s.size ≤ maxLen) := hsh
    have hvk := hown.lt
    have HVK : Hid (∀ q, u6.ownBlock = some q → w.heap.size + 1 ≤ q ∧ q < wr.heap.size) := hvk
    have hsr := hbl.size
    have htr := ht.1
    have HEND : Hid (∀ W, Below wr.heap.size wr W → MovesEnd w most (.returned u6) W) := fun W hW => by
      have ho := owns_below hown hW
      have hb := hbl.trans (hW.mono hsr)
      rcases ho.2 with ⟨h1, h2⟩ | ⟨g, c, cur, h1, _, _, h5, _⟩
      · have : ms = [] := List.eq_nil_of_length_eq_zero (by omega)
        exact ⟨none, 0, ms, by rw [h1, this]; rfl, by omega, hb, .inl this, hsh, by omega⟩
      · refine ⟨some ⟨g, 0, none⟩, c, ms, by rw [h1, hmn], by omega, hb, mvs_own (base := w.heap.size + 1) (cap := c) (xs := rowM ms) ?_ rfl, hsh, by omega⟩
        rw [h1] at ho
        rw [hmn]; exact ho
    clear hmn hown hsh hvk
    by_cases hlt : (n : Int) < (most : Int)
    · go_wp2_with fail
      refine (more_any _ _ _ _ _ _ ht hnl).mono ?_
      rintro e w1 ⟨rfl, m, rfl⟩
      have hbm : Below wr.heap.size wr (wr.drewN m) := below_drewN (Below.refl _ _) m
      generalize wr.drewN m = w1 at *
      have ht1 := ht.only hbm
      have hnr1 : NumsAt w1 B ns LA := nums_below hnr (hbm.mono (by omega))
      by_cases hkl : k < ns.length
      · have n1 : ((n : Int) + 1) ≤ 1000 := by omega
        have w1n : wrap64 ((n : Int) + 1) = (n : Int) + 1 := by unfold wrap64; omega
        go_wp2_with fail
        refine (next_any w1 _ B LA ns cap k 10 ht1 (by omega) hnr1 hf (by omega) (by omega) hk).mono ?_
        rintro e w2 ⟨rfl, ho2, ht2⟩
        have hk2 := nextK_le ns k 10 hk
        have hv2 := nextV_lo ns k 10
        have hv2' := nextV_hi ns k 10 (by omega)
        generalize nextK ns k 10 = k2 at *
        generalize nextV ns k 10 = x2 at *
        have hnr2 := hnr1.only ho2 (by omega) ht1.1
        have w2x : wrap64 (1 + x2) = 1 + x2 := by unfold wrap64; omega
        go_wp2_with fail
        refine (next_any w2 _ B LA ns cap k2 ((n : Int) + 1) ht2 (by omega) hnr2 hf n1 (by omega) hk2).mono ?_
        rintro e w3 ⟨rfl, ho3, ht3⟩
        have hk3 := nextK_le ns k2 ((n : Int) + 1) hk2
        generalize nextK ns k2 ((n : Int) + 1) = k3 at *
        generalize nextV ns k2 ((n : Int) + 1) = x3 at *
        have hnr3 := hnr2.only ho3 (by omega) ht2.1
        go_wp2_with fail
        refine (next_any w3 _ B LA ns cap k3 ((n : Int) + 1) ht3 (by omega) hnr3 hf n1 (by omega) hk3).mono ?_
        rintro e w4 ⟨rfl, ho4, ht4⟩
        have hk4 := nextK_le ns k3 ((n : Int) + 1) hk3
        generalize nextK ns k3 ((n : Int) + 1) = k4 at *
        generalize nextV ns k3 ((n : Int) + 1) = x4 at *
        have hnr4 := hnr3.only ho4 (by omega) ht3.1
        have hs1 := hbm.size
        have hs2 := ho2.size
        have hs3 := ho3.size
        have hs4 := ho4.size
        have OO4 : Hid (Only w.heap.size wr w4) := ((((Only.refl _ _).below hbm).trans ho2).trans ho3).trans ho4
        clear ho2 ho3 ho4 ht ht1 ht2 ht3 hnr hnr1 hnr2 hnr3
        have hal4 : Below w4.heap.size w4 (w4.alloc (.cells #[.string ⟨#[97]⟩, .string ⟨#[98]⟩, .string ⟨#[]⟩] 9)) := Below.alloc (Below.refl _ _) (Nat.le_refl _) _
        go_wp2_with fail
        refine (pick_any (w4.alloc (.cells #[.string ⟨#[97]⟩, .string ⟨#[98]⟩, .string ⟨#[]⟩] 9)) _ B LA ns cap k4 w4.heap.size [⟨#[97]⟩, ⟨#[98]⟩, ⟨#[]⟩] 3 (ht4.only hal4) (by omega) (nums_below hnr4 (hal4.mono (by omega))) hf hk4 (by decide) (by decide) (by omega) (by simp) (fun i hi => by
          simp only [List.length_cons, List.length_nil] at hi
          rcases (show i = 0 ∨ i = 1 ∨ i = 2 by omega) with rfl | rfl | rfl <;> simp [go_sem])).mono ?_
        rintro e w5 ⟨rfl, ho5, ht5⟩
        have hk5 := nextK_le ns k4 (([⟨#[97]⟩, ⟨#[98]⟩, ⟨#[]⟩] : List ByteArray).length : Int) hk4
        have hsh5 := pick_short (nextV ns k4 (([⟨#[97]⟩, ⟨#[98]⟩, ⟨#[]⟩] : List ByteArray).length : Int)).toNat
        generalize List.getD ([⟨#[97]⟩, ⟨#[98]⟩, ⟨#[]⟩] : List ByteArray) (nextV ns k4 (([⟨#[97]⟩, ⟨#[98]⟩, ⟨#[]⟩] : List ByteArray).length : Int)).toNat ByteArray.empty = s5 at *
        generalize nextK ns k4 (([⟨#[97]⟩, ⟨#[98]⟩, ⟨#[]⟩] : List ByteArray).length : Int) = k5 at *
        have HS5 : Hid (s5.size ≤ maxLen) := hsh5
        have hnr5 := (nums_below hnr4 (hal4.mono (by omega))).only ho5 (by omega) (ht4.only hal4).1
        have hs5 := ho5.size
        simp only [World.heap_size_alloc'] at hs5
        have OO5 : Hid (Only w.heap.size wr w5) := (OO4.out.alloc _).trans ho5
        clear hsh5 ho5 ht4 hnr4
        have hal5 : Below w5.heap.size w5 (w5.alloc (.cells #[.int .i64 (1 + x2), .int .i64 x3, .int .i64 x4, .string s5] 26)) := Below.alloc (Below.refl _ _) (Nat.le_refl _) _
        go_wp2_with fail
        refine (next_any (w5.alloc (.cells #[.int .i64 (1 + x2), .int .i64 x3, .int .i64 x4, .string s5] 26)) _ B LA ns cap k5 12 (ht5.only hal5) (by omega) (nums_below hnr5 (hal5.mono (by omega))) hf (by omega) (by omega) hk5).mono ?_
        rintro e w6 ⟨rfl, ho6, ht6⟩
        have hk6 := nextK_le ns k5 12 hk5
        generalize nextK ns k5 12 = k6 at *
        generalize nextV ns k5 12 = x6 at *
        have hnr6 := (nums_below hnr5 (hal5.mono (by omega))).only ho6 (by omega) (ht5.only hal5).1
        have hs6 := ho6.size
        simp only [World.heap_size_alloc'] at hs6
        obtain ⟨y0, y1, y2, y3, y4⟩ : Box4 w6 w5.heap.size (.int .i64 (1 + x2)) (.int .i64 x3) (.int .i64 x4) (.string s5) := (Box4.new w5 _ _ _ _ _).only ho6 (by omega)
        have OO6 : Hid (Only w.heap.size wr w6) := (OO5.out.alloc _).trans ho6
        have hfz : ∀ j, w6.frozen? ⟨w5.heap.size, j, none⟩ = false := fun j => by rw [ho6.frozen (by simp) (by simp; omega)]; simp [go_sem]
        have HFZ : Hid (∀ j, w6.frozen? ⟨w5.heap.size, j, none⟩ = false) := hfz
        clear ho6 ht5 hnr5 hfz hbm hkl
        by_cases hx6 : x6 = 0
        · have e6 : (x6 == 0) = true := by simp [hx6]
          clear hx6
          go_wp2_with fail
          refine (next_any w6 _ B LA ns cap k6 13 ht6 (by omega) hnr6 hf (by omega) (by omega) hk6).mono ?_
          rintro e w7 ⟨rfl, ho7, ht7⟩
          have hk7 := nextK_le ns k6 13 hk6
          generalize nextK ns k6 13 = k7 at *
          generalize nextV ns k6 13 = x7 at *
          have hnr7 := hnr6.only ho7 (by omega) ht6.1
          go_wp2_with fail
          refine (next_any w7 _ B LA ns cap k7 30 ht7 (by omega) hnr7 hf (by omega) (by omega) hk7).mono ?_
          rintro e w8 ⟨rfl, ho8, ht8⟩
          have hk8 := nextK_le ns k7 30 hk7
          have hv8 := nextV_lo ns k7 30
          have hv8' := nextV_hi ns k7 30 (by omega)
          generalize nextK ns k7 30 = k8 at *
          generalize nextV ns k7 30 = x8 at *
          have hnr8 := hnr7.only ho8 (by omega) ht7.1
          have hs7 := ho7.size
          have hs8 := ho8.size
          have w8x : wrap64 (x8 - 2) = x8 - 2 := by unfold wrap64; omega
          obtain ⟨z0, z1, z2, z3, z4⟩ : Box4 w8 w5.heap.size (.int .i64 (1 + x2)) (.int .i64 x3) (.int .i64 x4) (.string s5) := Box4.only (Box4.only ⟨y0, y1, y2, y3, y4⟩ ho7 (by omega)) ho8 (by omega)
          have fz0 : w8.frozen? ⟨w5.heap.size, 0, none⟩ = false := by rw [ho8.frozen (by simp; omega) (by simp; omega), ho7.frozen (by simpa using y0) (by simp; omega)]; exact HFZ.out 0
          have fz1 : w8.frozen? ⟨w5.heap.size, 1, none⟩ = false := by rw [ho8.frozen (by simp; omega) (by simp; omega), ho7.frozen (by simpa using y0) (by simp; omega)]; exact HFZ.out 1
          have OZ : Hid (Only w.heap.size wr ((w8.setCell ⟨w5.heap.size, 0, none⟩ (.int .i64 x7)).setCell ⟨w5.heap.size, 1, none⟩ (.int .i64 (x8 - 2)))) := Only.setCell (p := ⟨w5.heap.size, 1, none⟩) (Only.setCell (p := ⟨w5.heap.size, 0, none⟩) ((OO6.out.trans ho7).trans ho8) (.inr (by simp; omega)) _) (.inr (by simp; omega)) _
          have hOS : Only w5.heap.size w8 ((w8.setCell ⟨w5.heap.size, 0, none⟩ (.int .i64 x7)).setCell ⟨w5.heap.size, 1, none⟩ (.int .i64 (x8 - 2))) := Only.setCell (p := ⟨w5.heap.size, 1, none⟩) (Only.setCell (p := ⟨w5.heap.size, 0, none⟩) (Only.refl _ _) (.inl rfl) _) (.inl rfl) _
          have hbS : Below w5.heap.size w8 ((w8.setCell ⟨w5.heap.size, 0, none⟩ (.int .i64 x7)).setCell ⟨w5.heap.size, 1, none⟩ (.int .i64 (x8 - 2))) := hOS.toBelow (Nat.le_refl _) (by omega)
          have HTZ : Hid (TapeAt ((w8.setCell ⟨w5.heap.size, 0, none⟩ (.int .i64 x7)).setCell ⟨w5.heap.size, 1, none⟩ (.int .i64 (x8 - 2))) w.heap.size LA ns.length cap k8) := by
            obtain ⟨q0, q1, q2, q3⟩ := ht8
            exact ⟨by have := hbS.size; omega, by rw [hbS.cell (by simp; omega)]; exact q1, by rw [hbS.cell (by simp; omega)]; exact q2, by rw [hbS.frozen (by simp; omega)]; exact q3⟩
          have HNZ : Hid (NumsAt ((w8.setCell ⟨w5.heap.size, 0, none⟩ (.int .i64 x7)).setCell ⟨w5.heap.size, 1, none⟩ (.int .i64 (x8 - 2))) B ns LA) := nums_below hnr8 (hbS.mono (by omega))
          clear ho7 ho8 hOS hbS y1 y2 y3 y4
          go_wp2_with (at_builtin; refine wpList_append_any _ rfl _ _ 23 rfl (w.heap.size + 1) 26 i5 (.agg #[.int .i64 0, .int .i64 0, .int .i64 0, .string ⟨#[]⟩]) 4 40 Tryz.underlying23 hi hz0 hz1 hz2 rfl (by decide) u6 n (rowM ms) rfl ?own (some ⟨w8.heap.size, 0, none⟩) 1 1 ((⟨x7, x8 - 2, x4, s5⟩ : Mv)).cells rfl ?src ?c3 ?c4 ?c5 ?_)
          case own => exact (owns_of HOWN.out (fun q hq => OZ.out.block q (HVK.out q hq).2 (by have := HVK.out q hq; omega))).alloc _
          case src => exact .inr ⟨_, rfl, rfl, World.news_of_block (cs := #[.int .i64 x7, .int .i64 (x8 - 2), .int .i64 x4, .string s5]) (t := 26) (fr := (0, 0)) (by have h := heap_alloc_new ((w8.setCell ⟨w5.heap.size, 0, none⟩ (.int .i64 x7)).setCell ⟨w5.heap.size, 1, none⟩ (.int .i64 (x8 - 2))) (.cells #[.int .i64 x7, .int .i64 (x8 - 2), .int .i64 x4, .string s5] 26); rwa [show (((w8.setCell ⟨w5.heap.size, 0, none⟩ (.int .i64 x7)).setCell ⟨w5.heap.size, 1, none⟩ (.int .i64 (x8 - 2)))).heap.size = w8.heap.size from by simp [World.setCell]] at h), by simp [Mv.cells, Value.oneCell']⟩
          case c3 => unfold maxLen; omega
          case c4 => omega
          case c5 => have := OZ.out.size; simp; omega
          intro v9 w9 hown9 hgrow9 hat9
          have HR9 : Hid (MovRel w B most ns LA cap v9 (.int .i64 ((n : Int) + 1)) w9) := mov_step (mm := (⟨x7, x8 - 2, x4, s5⟩ : Mv)) hbl htr hB HVK.out OZ.out HMN.out HSH.out HS5.out (by omega) hk8 HTZ.out HNZ.out hown9 hgrow9
          clear hown9 hgrow9 hat9
          go_wp2_with fail
          go_roundw
          case rel => exact HR9.out
          case measure => simp [intOf]; omega
        · have e6 : (x6 == 0) = false := by simp [hx6]
          have OZ : Hid (Only w.heap.size wr w6) := OO6.out
          clear hx6
          go_wp2_with (at_builtin; refine wpList_append_any _ rfl _ _ 23 rfl (w.heap.size + 1) 26 i5 (.agg #[.int .i64 0, .int .i64 0, .int .i64 0, .string ⟨#[]⟩]) 4 40 Tryz.underlying23 hi hz0 hz1 hz2 rfl (by decide) u6 n (rowM ms) rfl ?own (some ⟨w6.heap.size, 0, none⟩) 1 1 ((⟨1 + x2, x3, x4, s5⟩ : Mv)).cells rfl ?src ?c3 ?c4 ?c5 ?_)
          case own => exact (owns_of HOWN.out (fun q hq => OZ.out.block q (HVK.out q hq).2 (by have := HVK.out q hq; omega))).alloc _
          case src => exact .inr ⟨_, rfl, rfl, World.news_of_block (cs := #[.int .i64 (1 + x2), .int .i64 x3, .int .i64 x4, .string s5]) (t := 26) (fr := (0, 0)) (heap_alloc_new (w6) _), by simp [Mv.cells, Value.oneCell']⟩
          case c3 => unfold maxLen; omega
          case c4 => omega
          case c5 => have := OZ.out.size; simp; omega
          intro v9 w9 hown9 hgrow9 hat9
          have HR9 : Hid (MovRel w B most ns LA cap v9 (.int .i64 ((n : Int) + 1)) w9) := mov_step (mm := (⟨1 + x2, x3, x4, s5⟩ : Mv)) hbl htr hB HVK.out OZ.out HMN.out HSH.out HS5.out (by omega) hk6 ht6 hnr6 hown9 hgrow9
          clear hown9 hgrow9 hat9
          go_wp2_with fail
          go_roundw
          case rel => exact HR9.out
          case measure => simp [intOf]; omega
      · go_wp2_with fail
        go_ret
        exact HEND.out w1 hbm
    · go_wp2_with fail
      go_ret
      exact HEND.out wr (Below.refl _ _)

end Go.Proofs.YtmppoobimnkloaaGreatDoor
