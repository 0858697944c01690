import Derived.Test.YtfoeeocejcbmlaaGreatDoorQD
import Derived.Test.YtfoeeocejcbmlaaGreatDoorQK
namespace Go.Proofs.YtfoeeocejcbmlaaGreatDoor
open Go.RowKit
set_option linter.unusedVariables false
set_option linter.unusedSimpArgs false

def fNames : List ByteArray := [⟨#[97]⟩, ⟨#[98]⟩, ⟨#[99, 111, 100, 101]⟩, ⟨#[115, 116, 97, 116, 101]⟩, ⟨#[120, 32, 121]⟩, ⟨#[195, 169]⟩, ⟨#[61]⟩, ⟨#[38]⟩, ⟨#[126]⟩]
def fVals : List ByteArray := [⟨#[]⟩, ⟨#[49]⟩, ⟨#[97, 32, 98]⟩, ⟨#[126, 65, 103, 65, 65, 65, 65, 69, 126]⟩, ⟨#[37]⟩, ⟨#[43]⟩, ⟨#[0]⟩, ⟨#[104, 116, 116, 112, 115, 58, 47, 47, 99, 49, 47, 99, 98]⟩]

theorem fNames_at (i : Nat) (hi : i < 9) : [Value.string ⟨#[97]⟩, Value.string ⟨#[98]⟩, Value.string ⟨#[99, 111, 100, 101]⟩, Value.string ⟨#[115, 116, 97, 116, 101]⟩, Value.string ⟨#[120, 32, 121]⟩, Value.string ⟨#[195, 169]⟩, Value.string ⟨#[61]⟩, Value.string ⟨#[38]⟩, Value.string ⟨#[126]⟩][i]? = some (Value.string (fNames[i]?.getD ByteArray.empty)) := by
  rcases (show i = 0 ∨ i = 1 ∨ i = 2 ∨ i = 3 ∨ i = 4 ∨ i = 5 ∨ i = 6 ∨ i = 7 ∨ i = 8 by omega) with rfl | rfl | rfl | rfl | rfl | rfl | rfl | rfl | rfl <;> rfl
theorem fVals_at (i : Nat) (hi : i < 8) : [Value.string ⟨#[]⟩, Value.string ⟨#[49]⟩, Value.string ⟨#[97, 32, 98]⟩, Value.string ⟨#[126, 65, 103, 65, 65, 65, 65, 69, 126]⟩, Value.string ⟨#[37]⟩, Value.string ⟨#[43]⟩, Value.string ⟨#[0]⟩, Value.string ⟨#[104, 116, 116, 112, 115, 58, 47, 47, 99, 49, 47, 99, 98]⟩][i]? = some (Value.string (fVals[i]?.getD ByteArray.empty)) := by
  rcases (show i = 0 ∨ i = 1 ∨ i = 2 ∨ i = 3 ∨ i = 4 ∨ i = 5 ∨ i = 6 ∨ i = 7 by omega) with rfl | rfl | rfl | rfl | rfl | rfl | rfl | rfl <;> rfl

theorem fNames_ok : ∀ x ∈ fNames, x.size ≠ 0 ∧ x.size ≤ 5 := by decide +kernel
theorem fVals_ok : ∀ x ∈ fVals, x.size ≤ 13 := by decide +kernel
theorem fName_ok (i : Nat) (hi : i < 9) : (fNames.getD i ByteArray.empty).size ≠ 0 ∧ (fNames.getD i ByteArray.empty).size ≤ 5 :=
  fNames_ok _ (by rw [List.getD_eq_getElem?_getD, List.getElem?_eq_getElem (show i < fNames.length from hi)]; exact List.getElem_mem _)
theorem fVal_ok (i : Nat) (hi : i < 8) : (fVals.getD i ByteArray.empty).size ≤ 13 :=
  fVals_ok _ (by rw [List.getD_eq_getElem?_getD, List.getElem?_eq_getElem (show i < fVals.length from hi)]; exact List.getElem_mem _)

/-- What Fields makes of a tape at place k: so many at most, behind acc. -/
def fldF (ns : List Int) : Nat → Nat → List Fd → List Fd
  | 0, _, acc => acc
  | m + 1, k, acc =>
    if k < ns.length then
      fldF ns m (nextK ns (nextK ns k 9) 8) (if hasF acc (fNames.getD (nextV ns k 9).toNat ByteArray.empty) = true then acc else acc ++ [(fNames.getD (nextV ns k 9).toNat ByteArray.empty, fVals.getD (nextV ns (nextK ns k 9) 8).toNat ByteArray.empty)])
    else acc

/-- Unlike names, and short. -/
def FOk (l : List Fd) : Prop := Unl l ∧ ∀ f ∈ l, f.1.size ≤ 5 ∧ f.2.size ≤ 13

theorem FOk.nil : FOk [] := ⟨Unl.nil, by simp⟩
theorem FOk.step {l : List Fd} (h : FOk l) (ns : List Int) (k k2 : Nat) : FOk (if hasF l (fNames.getD (nextV ns k 9).toNat ByteArray.empty) = true then l else l ++ [(fNames.getD (nextV ns k 9).toNat ByteArray.empty, fVals.getD (nextV ns k2 8).toNat ByteArray.empty)]) := by
  split
  · exact h
  · next hh =>
    have l1 := nextV_lo ns k 9
    have l2 := nextV_hi ns k 9 (by omega)
    have l3 := nextV_lo ns k2 8
    have l4 := nextV_hi ns k2 8 (by omega)
    have a := fName_ok (nextV ns k 9).toNat (by omega)
    have b := fVal_ok (nextV ns k2 8).toNat (by omega)
    refine ⟨h.1.snoc a.1 (by simpa using hh), fun f hf => ?_⟩
    rcases List.mem_append.1 hf with hf | hf
    · exact h.2 f hf
    · simp at hf; subst hf; exact ⟨a.2, b⟩
theorem fldF_ok (ns : List Int) : ∀ m k acc, FOk acc → FOk (fldF ns m k acc)
  | 0, _, _, h => h
  | m + 1, k, acc, h => by
    rw [fldF]; split
    · exact fldF_ok ns m _ _ (h.step ns k _)
    · exact h
theorem fldF_len (ns : List Int) : ∀ m k acc, (fldF ns m k acc).length ≤ acc.length + m
  | 0, _, _ => Nat.le_refl _
  | m + 1, k, acc => by
    rw [fldF]; split
    · refine Nat.le_trans (fldF_len ns m _ _) ?_
      split
      · omega
      · rw [List.length_append, List.length_singleton]; omega
    · omega
theorem FOk.sum {l : List Fd} (h : ∀ f ∈ l, f.1.size ≤ 5 ∧ f.2.size ≤ 13) : sumF l ≤ 18 * l.length := by
  induction l with
  | nil => simp [sumF]
  | cons f l ih =>
    have := ih (fun g hg => h g (by simp [hg]))
    have h2 := h f (by simp)
    rw [sumF_cons, List.length_cons]; omega

theorem OwnF.only {w w' : World} {B tb : Nat} {v : Value} {l : List Fd} (h : OwnF w B v l) (ho : Only tb w w') (hB : tb < B) : OwnF w' B v l := by
  have hl := World.ownsRow.lt h
  exact World.ownsRow.kept h (row := some tb) ⟨ho.os, ho.tape, ho.output, ho.size, fun k hk hne => ho.block k hk (fun e => hne (by rw [e]))⟩ (Or.inr (fun e => by have := (hl tb e).1; omega))

theorem TapeAt.belowB {w w' : World} {tb B : Nat} {LA : Option Addr} {n cap k : Nat} (h : TapeAt w tb LA n cap k) (ho : Below B w w') (hB : tb < B) : TapeAt w' tb LA n cap k := by
  obtain ⟨t0, t1, t2, t3⟩ := h
  exact ⟨Nat.lt_of_lt_of_le t0 ho.size, by rw [ho.cell hB]; exact t1, by rw [ho.cell hB]; exact t2, by rw [ho.frozen hB]; exact t3⟩

def FieldsRel (ns : List Int) (LA : Option Addr) (cap B most : Nat) (w : World) (lv iv : Value) (wr : World) : Prop :=
  ∃ (i k : Nat) (acc : List Fd), iv = .int .i64 (i : Int) ∧ i ≤ most ∧ acc.length ≤ i ∧ k ≤ ns.length ∧ TapeAt wr w.heap.size LA ns.length cap k ∧ NumsAt wr B ns LA ∧ OwnF wr (w.heap.size + 1) lv acc ∧ Below w.heap.size w wr ∧ fldF ns (most - i) k acc = fldF ns most 0 []

set_option maxRecDepth 20000 in
set_option maxHeartbeats 4000000 in
theorem fields10_any (ns : List Int) (LA : Option Addr) (cap B most : Nat) (hmost : most ≤ 1000) (w : World) (hB : B ≤ w.heap.size) (hns : NumsAt w B ns LA) (hf : NumsFit ns) :
    Calls Tryz.prog 33 #[.slice LA ns.length cap, .int .i64 (most : Int)] w fun e w' => ∃ v, e = .returned v ∧ OwnF w' w.heap.size v (fldF ns most 0 []) ∧ Below w.heap.size w w' := by
  have hnl := hf.1
  obtain ⟨i5, hi, hz0, hz1, hz2⟩ := info_has Tryz.infoFd
  go_enter Tryz.func33, Tryz.ntmps33
  go_wp2_with fail
  go_loopw [6, 7] (fun lv iv wr => FieldsRel ns LA cap B most w lv iv wr) (fun _ iv _ => most - (intOf iv).toNat)
  case atStart =>
    exact ⟨0, 0, [], rfl, by omega, Nat.le_refl _, by omega, ⟨by simp, by simp [go_sem], by simp [go_sem], by simp [go_sem]⟩, hns.below (Below.mono (by repeat (first | exact Below.refl _ _ | assumption | refine below_drewN ?_ _ | refine Below.drew ?_ | refine Below.alloc ?_ (by simp <;> omega) _ | refine Below.setCell ?_ (by simp <;> omega) _)) hB), OwnF.nil _ _, (by repeat (first | exact Below.refl _ _ | assumption | refine below_drewN ?_ _ | refine Below.drew ?_ | refine Below.alloc ?_ (by simp <;> omega) _ | refine Below.setCell ?_ (by simp <;> omega) _)), rfl⟩
  case round =>
    obtain ⟨i, k, acc, rfl, him, hai, hk, ht, hnr, hown, hbl, hacc⟩ := hrel
    have Hacc : Hid (fldF ns (most - i) k acc = fldF ns most 0 []) := hacc
    have HO : Hid (OwnF wr (w.heap.size + 1) u6 acc) := hown
    clear hacc hown
    by_cases hlt : (i : Int) < (most : Int)
    · go_wp2_with fail
      refine (more_any _ _ _ _ _ _ ht hnl).mono ?_
      rintro e w1 ⟨rfl, m, rfl⟩
      have hbm : Below wr.heap.size wr (wr.drewN m) := below_drewN (Below.refl _ _) m
      have O1 : Hid (OwnF (wr.drewN m) (w.heap.size + 1) u6 acc) := HO.out.below hbm
      generalize wr.drewN m = w1 at *
      have hs1 := hbm.size
      have hs0 := ht.1
      have ht1 := ht.only hbm
      have hnr1 : NumsAt w1 B ns LA := hnr.below (hbm.mono (by omega))
      have hbl1 := hbl.trans (hbm.mono (by omega))
      clear ht hnr hbl hbm HO
      by_cases hkl : k < ns.length
      · have hstep : fldF ns (most - (i + 1)) (nextK ns (nextK ns k 9) 8) (if hasF acc (fNames.getD (nextV ns k 9).toNat ByteArray.empty) = true then acc else acc ++ [(fNames.getD (nextV ns k 9).toNat ByteArray.empty, fVals.getD (nextV ns (nextK ns k 9) 8).toNat ByteArray.empty)]) = fldF ns most 0 [] := by
          have := Hacc.out
          rw [show most - i = (most - (i + 1)) + 1 by omega, fldF, if_pos hkl] at this
          exact this
        have hal : Below w1.heap.size w1 (w1.alloc (.cells #[.string ⟨#[97]⟩, .string ⟨#[98]⟩, .string ⟨#[99, 111, 100, 101]⟩, .string ⟨#[115, 116, 97, 116, 101]⟩, .string ⟨#[120, 32, 121]⟩, .string ⟨#[195, 169]⟩, .string ⟨#[61]⟩, .string ⟨#[38]⟩, .string ⟨#[126]⟩] 9)) := Below.alloc (Below.refl _ _) (Nat.le_refl _) _
        go_wp2_with fail
        refine (pick_any (w1.alloc (.cells #[.string ⟨#[97]⟩, .string ⟨#[98]⟩, .string ⟨#[99, 111, 100, 101]⟩, .string ⟨#[115, 116, 97, 116, 101]⟩, .string ⟨#[120, 32, 121]⟩, .string ⟨#[195, 169]⟩, .string ⟨#[61]⟩, .string ⟨#[38]⟩, .string ⟨#[126]⟩] 9)) _ B LA ns cap k w1.heap.size fNames 9 (ht1.only hal) (by omega) (hnr1.below (hal.mono (by omega))) hf hk (by decide) (by decide) (by omega) (by simp) (fun i hi => by
          simp [go_sem]; exact fNames_at i hi)).mono ?_
        rintro e w2 ⟨rfl, ho2, ht2⟩
        rw [show ((fNames.length : Nat) : Int) = 9 from rfl] at ht2
        rw [show ((fNames.length : Nat) : Int) = 9 from rfl]
        have hk2 := nextK_le ns k 9 hk
        have hnr2 := (hnr1.below (hal.mono (by omega))).only ho2 (by omega) (ht1.only hal).1
        have O2 : Hid (OwnF w2 (w.heap.size + 1) u6 acc) := (O1.out.below hal).only ho2 (by omega)
        have hs2 := ho2.size
        rw [size_alloc10] at hs2
        have hO : Hid (Only w.heap.size w1 w2) := ((Only.refl _ _).below hal).trans ho2
        have hbl2 : Hid (Below w.heap.size w w2) := hbl1.trans (hO.out.toBelow (Nat.le_refl _) (by omega))
        have HST : Hid (_ = fldF ns most 0 []) := hstep
        clear ho2 hal Hacc hO hbl1 hnr1 ht1 O1 hstep
        generalize fNames.getD (nextV ns k 9).toNat ByteArray.empty = x at *
        generalize nextK ns k 9 = k2 at *
        have hal : Below w2.heap.size w2 (w2.alloc (.cells #[.string ⟨#[]⟩, .string ⟨#[49]⟩, .string ⟨#[97, 32, 98]⟩, .string ⟨#[126, 65, 103, 65, 65, 65, 65, 69, 126]⟩, .string ⟨#[37]⟩, .string ⟨#[43]⟩, .string ⟨#[0]⟩, .string ⟨#[104, 116, 116, 112, 115, 58, 47, 47, 99, 49, 47, 99, 98]⟩] 9)) := Below.alloc (Below.refl _ _) (Nat.le_refl _) _
        go_wp2_with fail
        refine (pick_any (w2.alloc (.cells #[.string ⟨#[]⟩, .string ⟨#[49]⟩, .string ⟨#[97, 32, 98]⟩, .string ⟨#[126, 65, 103, 65, 65, 65, 65, 69, 126]⟩, .string ⟨#[37]⟩, .string ⟨#[43]⟩, .string ⟨#[0]⟩, .string ⟨#[104, 116, 116, 112, 115, 58, 47, 47, 99, 49, 47, 99, 98]⟩] 9)) _ B LA ns cap k2 w2.heap.size fVals 8 (ht2.only hal) (by omega) (hnr2.below (hal.mono (by omega))) hf hk2 (by decide) (by decide) (by omega) (by simp) (fun i hi => by
          simp [go_sem]; exact fVals_at i hi)).mono ?_
        rintro e w3 ⟨rfl, ho3, ht3⟩
        rw [show ((fVals.length : Nat) : Int) = 8 from rfl] at ht3
        rw [show ((fVals.length : Nat) : Int) = 8 from rfl]
        have hk3 := nextK_le ns k2 8 hk2
        have hnr3 := (hnr2.below (hal.mono (by omega))).only ho3 (by omega) (ht2.only hal).1
        have O3 : Hid (OwnF w3 (w.heap.size + 1) u6 acc) := (O2.out.below hal).only ho3 (by omega)
        have hs3 := ho3.size
        rw [size_alloc10] at hs3
        have hO : Hid (Only w.heap.size w2 w3) := ((Only.refl _ _).below hal).trans ho3
        have hbl3 : Hid (Below w.heap.size w w3) := hbl2.out.trans (hO.out.toBelow (Nat.le_refl _) (by omega))
        clear ho3 hal hO hbl2 hnr2 ht2 O2
        generalize fVals.getD (nextV ns k2 8).toNat ByteArray.empty = y at *
        generalize nextK ns k2 8 = k3 at *
        have hal : Below w3.heap.size w3 (w3.alloc (.cells #[.string x, .string y] 72)) := Below.alloc (Below.refl _ _) (Nat.le_refl _) _
        have ht4 := ht3.only hal
        have hnr4 : NumsAt (w3.alloc (.cells #[.string x, .string y] 72)) B ns LA := hnr3.below (hal.mono (by omega))
        have O4 : Hid (OwnF (w3.alloc (.cells #[.string x, .string y] 72)) (w.heap.size + 1) u6 acc) := O3.out.below hal
        have hbl4 : Hid (Below w.heap.size w (w3.alloc (.cells #[.string x, .string y] 72))) := hbl3.out.trans (hal.mono (by omega))
        have hhas := rhas_any acc u6 x _ (by omega) O4.out.row
        obtain ⟨A, cp, rfl, hcp, _⟩ := O4.out.row
        have hs4 := hal.size
        clear hal ht3 hnr3 O3 hbl3
        go_wp2_with fail
        refine hhas.mono ?_
        rintro e w4 ⟨rfl, hw4⟩
        rw [hw4]
        clear hhas hw4 w4
        cases hh : hasF acc x with
        | true =>
          have HN : Hid (fldF ns (most - (i + 1)) k3 acc = fldF ns most 0 []) := by show _ = _; rw [← HST.out, if_pos hh]
          clear hh HST
          go_wp2_with fail
          go_roundw
          case rel => exact ⟨i + 1, k3, acc, by go_num, by omega, by omega, hk3, ht4, hnr4, O4.out, hbl4.out, HN.out⟩
          case measure => simp [intOf]; omega
        | false =>
          have HN : Hid (fldF ns (most - (i + 1)) k3 (acc ++ [(x, y)]) = fldF ns most 0 []) := by show _ = _; rw [← HST.out, if_neg (by rw [hh]; simp)]
          clear hh HST
          have hsz4 : w.heap.size < w3.heap.size := by omega
          go_wp2_with (at_builtin; refine wpList_append_any _ rfl _ _ 26 rfl (w.heap.size + 1) 72 i5 (.agg #[.string ⟨#[]⟩, .string ⟨#[]⟩]) 2 32 Tryz.underlying26 hi hz0 hz1 hz2 rfl (by decide) (.slice A acc.length cp) acc.length (cellsF acc) rfl ?own (some ⟨w3.heap.size + 1, 0, none⟩) 1 1 [.string x, .string y] rfl ?src ?c3 ?c4 ?c5 ?_)
          case own => exact World.ownsRow.alloc O4.out _
          case src =>
            have e := heap_alloc_new (w3.alloc (.cells #[.string x, .string y] 72)) (.cells #[.string x, .string y] 72)
            rw [size_alloc10] at e
            exact .inr ⟨_, rfl, rfl, World.news_of_block (t := 72) (fr := (0, 0)) e, by simp [Value.oneCell']⟩
          case c3 => unfold maxLen; omega
          case c4 => omega
          case c5 => first | omega | (simp; omega)
          intro v6 w6 hown6 hgrow6 hat6
          have hat7 : v6.ownBlock = (Value.slice A acc.length cp).ownBlock ∨ v6.ownBlock = some ((w3.alloc (.cells #[.string x, .string y] 72)).heap.size + 1) := by
            rcases hat6 with h | h
            · exact .inl h
            · exact .inr (by rw [h, size_alloc10])
          have O6 : Hid (OwnF w6 (w.heap.size + 1) v6 (acc ++ [(x, y)])) := OwnF.snoc hown6
          have b6 : Below (w.heap.size + 1) (w3.alloc (.cells #[.string x, .string y] 72)) w6 := below_endR (Below.refl _ _) O4.out hgrow6 hat7 (by rw [size_alloc10]; omega)
          have T6 := ht4.belowB b6 (by omega)
          have N6 : NumsAt w6 B ns LA := hnr4.below (b6.mono (by omega))
          have B6 : Hid (Below w.heap.size w w6) := hbl4.out.trans (b6.mono (by omega))
          clear hown6 hgrow6 hat6 hat7 b6 O4 hbl4 ht4 hnr4
          go_wp2_with fail
          go_roundw
          case rel => exact ⟨i + 1, k3, acc ++ [(x, y)], by go_num, by omega, by simp; omega, hk3, T6, N6, O6.out, B6.out, HN.out⟩
          case measure => simp [intOf]; omega
      · go_wp2_with fail
        go_ret
        exact ⟨_, rfl, by have := Hacc.out; rw [← this, show most - i = (most - (i + 1)) + 1 by omega, fldF, if_neg hkl]; exact O1.out.lower (by omega), hbl1⟩
    · go_wp2_with fail
      go_ret
      exact ⟨_, rfl, by have := Hacc.out; rw [← this, show most - i = 0 by omega, fldF]; exact HO.out.lower (by omega), hbl⟩

end Go.Proofs.YtfoeeocejcbmlaaGreatDoor
