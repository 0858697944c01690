import Derived.Test.YtfoadbnllcfieaaC11
import Derived.Deep.OwnRows
namespace Go.Proofs.Ytfoadbnllcfieaa
open Go.RowKit
set_option linter.unusedVariables false
set_option linter.unusedSimpArgs false

theorem Stays.src' {w : World} {A : Option Addr} {cap n : Nat} {xs : List UInt8} (h : Stays w A cap xs) (hn : xs.length = n) : SrcAt w 1 A n (Lib.byteCells xs) := by subst hn; exact h.src

def erOf (r : Except Nat (Nd × Fo × Nat × List UInt8)) : Option Nat := match r with | .error e => some e | .ok _ => none
theorem er_of {r : Except Nat (Nd × Fo × Nat × List UInt8)} {e : Nat} (h : erOf r = some e) : r = .error e := by
  cases r with
  | error x => simp [erOf] at h; rw [h]
  | ok x => simp [erOf] at h

def pairs : Nat → List UInt8
  | 0 => []
  | n + 1 => pairs n ++ [7, 2, 0, 0, 0, 1]

set_option maxRecDepth 100000 in
theorem deep_hash : ∀ k, k < 20 → erOf (tk 16 0 (List.replicate k 3)) = some (if 16 ≤ k then 4 else 1) := by decide +kernel
set_option maxRecDepth 100000 in
theorem deep_nine : ∀ k, k < 20 → erOf (tk 16 0 (List.replicate k 3 ++ [9])) = some (if 16 ≤ k then 4 else 2) := by decide +kernel
set_option maxRecDepth 100000 in
theorem deep_pair : ∀ k, k < 40 → erOf (tk 16 0 (pairs k)) = some (if k < 16 then 1 else 4) := by decide +kernel

theorem pairs_len : ∀ n, (pairs n).length = 6 * n
  | 0 => rfl
  | n + 1 => by rw [pairs, List.length_append, pairs_len n]; simp; omega

/-- So many 3s are laid in the row M of n. -/
structure Laid3 (w0 w : World) (M n i : Nat) : Prop where
  below : Below M w0 w
  size : w.heap.size = M + 1
  laid : ∀ j, j < i → w.cell? ⟨M, j, none⟩ = some (.int .u8 3)
  free : ∀ j, j < n → ∃ z, w.cell? ⟨M, j, none⟩ = some z
  soft : ∀ j, w.frozen? ⟨M, j, none⟩ = false

theorem Laid3.step {w0 w : World} {M n i : Nat} (h : Laid3 w0 w M n i) (hi : i < n) : Laid3 w0 (w.setCell ⟨M, i, none⟩ (.int .u8 3)) M n (i + 1) := by
  obtain ⟨z, hz⟩ := h.free i hi
  have same := World.cell?_setCell_same w ⟨M, i, none⟩ (.int .u8 3) hz
  have other : ∀ j, j ≠ i → (w.setCell ⟨M, i, none⟩ (.int .u8 3)).cell? ⟨M, j, none⟩ = w.cell? ⟨M, j, none⟩ := fun j hj => by
    rw [World.cell?_setCell_other]
    intro e; injection e with _ e; omega
  refine ⟨Below.setCell h.below (by simp) _, by simp [World.setCell, h.size], fun j hj => ?_, fun j hj => ?_, fun j => by rw [World.frozen?_setCell]; exact h.soft j⟩
  · by_cases e : j = i
    · rw [e]; exact same
    · rw [other j e]; exact h.laid j (by omega)
  · by_cases e : j = i
    · rw [e]; exact ⟨_, same⟩
    · rw [other j e]; exact h.free j hj

theorem Laid3.stays {w0 w : World} {M n : Nat} (h : Laid3 w0 w M n n) (hn : n ≤ 100) : Stays w (some ⟨M, 0, none⟩) n (List.replicate n 3) := by
  refine ⟨.inr ⟨M, 0, rfl, by rw [h.size]; omega, fun i hi => ?_⟩, by simp, by unfold maxLen; omega⟩
  simp at hi
  rw [Nat.zero_add, h.laid i hi]
  simp [List.getD, List.getElem?_replicate, hi]

set_option maxRecDepth 100000 in
set_option maxHeartbeats 4000000 in
theorem codeDeep_any (w : World) (n m : Int) (hn1 : -9223372036854775808 ≤ n) (hn2 : n ≤ 9223372036854775807) (hm1 : -9223372036854775808 ≤ m) (hm2 : m ≤ 9223372036854775807) :
    Calls Try.prog 9 #[.int .i64 n, .int .i64 m] w fun e w' => e = .returned (.bool true) ∧ Below w.heap.size w w' := by
  obtain ⟨i5, hi, hz0, hz1, hz2⟩ := info_has Try.infoByte
  have l1 := Int.lt_tmod_of_pos n (show (0 : Int) < 20 by omega)
  have l2 := Int.tmod_lt_of_pos n (show (0 : Int) < 20 by omega)
  have l3 := Int.lt_tmod_of_pos m (show (0 : Int) < 40 by omega)
  have l4 := Int.tmod_lt_of_pos m (show (0 : Int) < 40 by omega)
  have hkN : ∃ kN : Nat, kN < 20 ∧ (n.tmod 20 = (kN : Int) ∨ (n.tmod 20 = (kN : Int) - 20 ∧ ((kN : Int) - 20) < 0)) := by
    by_cases hneg : n.tmod 20 < 0
    · exact ⟨(n.tmod 20 + 20).toNat, by omega, .inr ⟨by omega, by omega⟩⟩
    · exact ⟨(n.tmod 20).toNat, by omega, .inl (by omega)⟩
  have hjN : ∃ jN : Nat, jN < 40 ∧ (m.tmod 40 = (jN : Int) ∨ (m.tmod 40 = (jN : Int) - 40 ∧ ((jN : Int) - 40) < 0)) := by
    by_cases hneg : m.tmod 40 < 0
    · exact ⟨(m.tmod 40 + 40).toNat, by omega, .inr ⟨by omega, by omega⟩⟩
    · exact ⟨(m.tmod 40).toNat, by omega, .inl (by omega)⟩
  obtain ⟨kN, hk20, hkc⟩ := hkN
  obtain ⟨jN, hj40, hjc⟩ := hjN
  obtain ⟨er1, e1⟩ : ∃ er1 : Nat, er1 = if 16 ≤ kN then 4 else 1 := ⟨_, rfl⟩
  obtain ⟨er2, e2⟩ : ∃ er1 : Nat, er1 = if 16 ≤ kN then 4 else 2 := ⟨_, rfl⟩
  obtain ⟨er3, e3⟩ : ∃ er1 : Nat, er1 = if jN < 16 then 1 else 4 := ⟨_, rfl⟩
  have D1 : Hid (tk 16 0 (List.replicate kN 3) = .error er1) := by show tk 16 0 _ = _; rw [e1]; exact er_of (deep_hash kN hk20)
  have D2 : Hid (tk 16 0 (List.replicate kN 3 ++ [9]) = .error er2) := by show tk 16 0 _ = _; rw [e2]; exact er_of (deep_nine kN hk20)
  have D3 : Hid (tk 16 0 (pairs jN) = .error er3) := by show tk 16 0 _ = _; rw [e3]; exact er_of (deep_pair jN hj40)
  have he1 : Hid (er1 = if 16 ≤ kN then 4 else 1) := e1
  have he2 : Hid (er2 = if 16 ≤ kN then 4 else 2) := e2
  have he3 : Hid (er3 = if jN < 16 then 1 else 4) := e3
  clear e1 e2 e3
  have hmk := run_make_row' (P := Try.prog) 33 5 (.int .u8 0) 1 Try.underlying33 Try.infoByte rfl .i64 .i64 kN (by omega) (by omega)
  clear l1 l2 l3 l4
  go_enter Try.func9, Try.ntmps9
  go_wp2_with fail
  refine (known2_any _).mono ?_
  rintro e w1 ⟨rfl, ho1⟩
  rcases hkc with hkc | ⟨hkc, hkl⟩
  · rcases hjc with hjc | ⟨hjc, hjl⟩
    · go_wp2_with fail
      go_loopw [8] (fun iv wr => ∃ i : Nat, iv = .int .i64 (i : Int) ∧ i ≤ kN ∧ Laid3 w1 wr w1.heap.size kN i) (fun iv _ => kN - (intOf iv).toNat)
      case atStart => 
        refine ⟨0, rfl, by omega, Below.alloc (Below.refl _ _) (Nat.le_refl _) _, by simp, fun j hj => by omega, fun j hj => ⟨.int .u8 0, by simp [go_sem, madeCells, hj, Nat.mod_one]⟩, fun j => by simp [go_sem]⟩
      case round =>
        obtain ⟨i, rfl, hik, hlaid⟩ := hrel
        by_cases hlt : (i : Int) < (kN : Int)
        · obtain ⟨z, hz⟩ := hlaid.free i (by omega)
          have hsf := hlaid.soft i
          have hsz := hlaid.size
          have HL : Hid (Laid3 w1 wr w1.heap.size kN i) := hlaid
          clear hlaid hmk
          go_wp2_with fail
          go_roundw
          case rel => exact ⟨i + 1, by go_num, by omega, HL.out.step (by omega)⟩
          case measure => simp [intOf]; omega
        · obtain rfl : kN = i := by omega
          have HST : Hid (Stays wr (some ⟨w1.heap.size, 0, none⟩) kN (List.replicate kN 3)) := hlaid.stays (by omega)
          have hbr : Below w.heap.size w wr := ho1.trans (hlaid.below.mono ho1.size)
          obtain ⟨wo, hwo⟩ : ∃ wo : World, wo = wr := ⟨_, rfl⟩
          clear hlaid hmk
          go_wp2_with fail
          have htk := take_any wr (some ⟨w1.heap.size, 0, none⟩) kN (List.replicate kN 3) HST.out.at' HST.out.le HST.out.max'
          rw [List.length_replicate] at htk
          refine htk.mono ?_
          rintro e w2 ⟨h1, _⟩
          obtain ⟨rfl, ho2⟩ := h1 _ D1.out
          clear h1 htk
          have hs2 := ho2.size
          go_wp2_with (at_builtin; refine wpList_append_any _ rfl _ _ 33 rfl (w2.heap.size + 1) 5 i5 (.int .u8 0) 1 1 Try.underlying33 hi hz0 hz1 hz2 rfl (by decide) (.slice (some ⟨w2.heap.size + 1, 0, none⟩) 0 0) 0 [] rfl ?own (some ⟨w1.heap.size, 0, none⟩) kN kN (Lib.byteCells (List.replicate kN 3)) rfl ?src ?c3 ?c4 ?c5 ?_)
          case own => exact ⟨rfl, .inr ⟨w2.heap.size + 1, 0, #[], rfl, Nat.le_refl _, by have := heap_alloc_new (w2.alloc (.cells #[.int .i64 0, .int .i64 0, .string ⟨#[]⟩, .slice none 0 0] 30)) (.cells #[] 5); simpa using this, Nat.le_refl _, Nat.zero_le _, rfl, rfl⟩⟩
          case src => exact (HST.out.later ((ho2.alloc hs2 _).alloc (by simp; omega) _)).src' (by simp)
          case c3 => unfold maxLen; omega
          case c4 => omega
          case c5 => simp
          intro v3 w3 hown3 hgrow3 hat3
          have o3 : OwnB w3 (w2.heap.size + 1) v3 (List.replicate kN 3) := by unfold OwnB; rw [List.length_replicate]; simpa using hown3
          have hb3 : Below w2.heap.size w2 w3 := Below.trans (Below.alloc (Below.alloc (Below.refl _ _) (Nat.le_refl _) _) (by simp) _) (grown_below hgrow3 (fun q e => by simp [Value.ownBlock] at e; omega) (by simp; omega))
          have hs3 := hgrow3.size
          simp only [World.heap_size_alloc'] at hs3
          have O3 : Hid (OwnB w3 (w2.heap.size + 1) v3 (List.replicate kN 3)) := o3
          clear hown3 hgrow3 hat3 o3
          go_wp2_with (at_builtin; refine wpList_append_any _ rfl _ _ 33 rfl (w2.heap.size + 1) 5 i5 (.int .u8 0) 1 1 Try.underlying33 hi hz0 hz1 hz2 rfl (by decide) v3 kN (Lib.byteCells (List.replicate kN 3)) rfl ?own (some ⟨w3.heap.size, 0, none⟩) 1 1 [.int .u8 9] rfl ?src ?c3 ?c4 ?c5 ?_)
          case own => have := World.ownsRow.alloc O3.out (.cells #[.int .u8 9] 5); rw [List.length_replicate] at this; exact this
          case src => exact .inr ⟨_, rfl, rfl, World.news_of_block (t := 5) (fr := (0, 0)) (heap_alloc_new w3 _), by simp [Value.oneCell']⟩
          case c3 => unfold maxLen; omega
          case c4 => omega
          case c5 => simp; omega
          intro v4 w4 hown4 hgrow4 hat4
          obtain ⟨zt, hzt⟩ : ∃ zt : List UInt8, zt = List.replicate kN 3 ++ [9] := ⟨_, rfl⟩
          have o4 : OwnB w4 (w2.heap.size + 1) v4 zt := by
            unfold OwnB; rw [hzt, List.length_append, List.length_replicate, ← byteCells_append]; exact hown4
          have hb4 : Below w2.heap.size w2 w4 := hb3.trans ((Below.alloc (Below.refl _ _) hb3.size _).trans (grown_below hgrow4 (fun q e => by have := (O3.out.base q e).1; omega) (by have := hb3.size; simp; omega)))
          obtain ⟨A4, k4, rfl, hst4⟩ := o4.stays
          have Hzt : Hid (tk 16 0 zt = .error er2) := by show tk 16 0 zt = _; rw [hzt]; exact D2.out
          have HS4 : Hid (Stays w4 A4 k4 zt) := hst4
          clear hown4 hgrow4 hat4 o4 hzt hst4 O3 hb3
          go_wp2_with fail
          refine (take_any w4 A4 k4 zt HS4.out.at' HS4.out.le HS4.out.max').mono ?_
          rintro e w5 ⟨h1, _⟩
          obtain ⟨rfl, ho5⟩ := h1 _ Hzt.out
          clear h1
          have hbr2 : Below w.heap.size w w2 := hbr.trans (ho2.mono hbr.size)
          have hbr4 : Below w.heap.size w w4 := hbr2.trans (hb4.mono hbr2.size)
          have hbr5 : Below w.heap.size w w5 := hbr4.trans (ho5.mono hbr4.size)
          go_wp2_with fail
          obtain ⟨W5, hW5⟩ : ∃ W5 : World, W5 = w5.alloc (.cells #[.int .i64 0, .int .i64 0, .string ⟨#[]⟩, .slice none 0 0] 30) := ⟨_, rfl⟩
          have hbW5 : Below w.heap.size w W5 := by rw [hW5]; exact hbr5.alloc hbr5.size _
          have HW5s : Hid (W5.heap.size = w5.heap.size + 1) := by show W5.heap.size = _; rw [hW5]; simp
          rw [← hW5]
          clear hW5
          go_loopw [15, 16] (fun cv iv wr => ∃ i : Nat, iv = .int .i64 (i : Int) ∧ i ≤ jN ∧ OwnB wr W5.heap.size cv (pairs i) ∧ Below W5.heap.size W5 wr) (fun _ iv _ => jN - (intOf iv).toNat)
          case atStart => exact ⟨0, rfl, by omega, OwnB.nil _ _, Below.refl _ _⟩
          case round =>
            obtain ⟨i, rfl, hij, hoc, hbc⟩ := hrel
            have HOC : Hid (OwnB wr W5.heap.size u15 (pairs i)) := hoc
            have hpl := pairs_len i
            have hsc := hbc.size
            by_cases hlt2 : (i : Int) < (jN : Int)
            · clear hoc
              go_wp2_with (at_builtin; refine wpList_append_any _ rfl _ _ 33 rfl W5.heap.size 5 i5 (.int .u8 0) 1 1 Try.underlying33 hi hz0 hz1 hz2 rfl (by decide) u15 (6 * i) (Lib.byteCells (pairs i)) rfl ?own (some ⟨wr.heap.size, 0, none⟩) 6 6 [.int .u8 7, .int .u8 2, .int .u8 0, .int .u8 0, .int .u8 0, .int .u8 1] rfl ?src ?c3 ?c4 ?c5 ?_)
              case own => have := World.ownsRow.alloc HOC.out (.cells #[.int .u8 7, .int .u8 2, .int .u8 0, .int .u8 0, .int .u8 0, .int .u8 1] 5); rw [hpl] at this; exact this
              case src => exact .inr ⟨_, rfl, rfl, World.news_of_block (t := 5) (fr := (0, 0)) (heap_alloc_new wr _), by simp [Value.oneCell']⟩
              case c3 => unfold maxLen; omega
              case c4 => omega
              case c5 => simp; omega
              intro v7 w7 hown7 hgrow7 hat7
              have o7 : Hid (OwnB w7 W5.heap.size v7 (pairs (i + 1))) := by
                show OwnB w7 W5.heap.size v7 (pairs (i + 1))
                unfold OwnB; rw [pairs, List.length_append, hpl, ← byteCells_append]; exact hown7
              have hb7 : Below W5.heap.size W5 w7 := hbc.trans ((Below.alloc (Below.refl _ _) hsc _).trans (grown_below hgrow7 (fun q e => (HOC.out.base q e).1) (by simp; omega)))
              clear hown7 hgrow7 hat7 HOC
              go_wp2_with fail
              go_roundw
              case rel => exact ⟨i + 1, by go_num, by omega, o7.out, hb7⟩
              case measure => simp [intOf]; omega
            · obtain rfl : jN = i := by omega
              obtain ⟨A7, k7, rfl, hst7⟩ := hoc.stays
              have HS7 : Hid (Stays wr A7 k7 (pairs jN)) := hst7
              clear hoc hst7 HOC
              rw [hpl]
              have hbwr : Below w.heap.size w wr := hbW5.trans (hbc.mono hbW5.size)
              have hcsz := hbwr.size
              clear hbc hsc
              go_wp2_with fail
              have htk := take_any wr A7 k7 (pairs jN) HS7.out.at' HS7.out.le HS7.out.max'
              rw [hpl] at htk
              refine htk.mono ?_
              rintro e w8 ⟨h1, _⟩
              obtain ⟨rfl, ho8⟩ := h1 _ D3.out
              clear h1 htk
              have hb8 : Below w.heap.size w w8 := hbwr.trans (ho8.mono hcsz)
              by_cases h16 : 16 ≤ kN
              · obtain rfl : er1 = 4 := by rw [he1.out, if_pos h16]
                obtain rfl : er2 = 4 := by rw [he2.out, if_pos h16]
                by_cases j16 : jN < 16
                · obtain rfl : er3 = 1 := by rw [he3.out, if_pos j16]
                  go_wp2_with fail
                  go_ret
                  exact ⟨ret_bool (by simp <;> omega), hb8.alloc hb8.size _⟩
                · obtain rfl : er3 = 4 := by rw [he3.out, if_neg j16]
                  go_wp2_with fail
                  go_ret
                  exact ⟨ret_bool (by simp <;> omega), hb8.alloc hb8.size _⟩
              · obtain rfl : er1 = 1 := by rw [he1.out, if_neg h16]
                obtain rfl : er2 = 2 := by rw [he2.out, if_neg h16]
                by_cases j16 : jN < 16
                · obtain rfl : er3 = 1 := by rw [he3.out, if_pos j16]
                  go_wp2_with fail
                  go_ret
                  exact ⟨ret_bool (by simp <;> omega), hb8.alloc hb8.size _⟩
                · obtain rfl : er3 = 4 := by rw [he3.out, if_neg j16]
                  go_wp2_with fail
                  go_ret
                  exact ⟨ret_bool (by simp <;> omega), hb8.alloc hb8.size _⟩
    · go_wp2_with fail
      go_loopw [8] (fun iv wr => ∃ i : Nat, iv = .int .i64 (i : Int) ∧ i ≤ kN ∧ Laid3 w1 wr w1.heap.size kN i) (fun iv _ => kN - (intOf iv).toNat)
      case atStart => 
        refine ⟨0, rfl, by omega, Below.alloc (Below.refl _ _) (Nat.le_refl _) _, by simp, fun j hj => by omega, fun j hj => ⟨.int .u8 0, by simp [go_sem, madeCells, hj, Nat.mod_one]⟩, fun j => by simp [go_sem]⟩
      case round =>
        obtain ⟨i, rfl, hik, hlaid⟩ := hrel
        by_cases hlt : (i : Int) < (kN : Int)
        · obtain ⟨z, hz⟩ := hlaid.free i (by omega)
          have hsf := hlaid.soft i
          have hsz := hlaid.size
          have HL : Hid (Laid3 w1 wr w1.heap.size kN i) := hlaid
          clear hlaid hmk
          go_wp2_with fail
          go_roundw
          case rel => exact ⟨i + 1, by go_num, by omega, HL.out.step (by omega)⟩
          case measure => simp [intOf]; omega
        · obtain rfl : kN = i := by omega
          have HST : Hid (Stays wr (some ⟨w1.heap.size, 0, none⟩) kN (List.replicate kN 3)) := hlaid.stays (by omega)
          have hbr : Below w.heap.size w wr := ho1.trans (hlaid.below.mono ho1.size)
          obtain ⟨wo, hwo⟩ : ∃ wo : World, wo = wr := ⟨_, rfl⟩
          clear hlaid hmk
          go_wp2_with fail
          have htk := take_any wr (some ⟨w1.heap.size, 0, none⟩) kN (List.replicate kN 3) HST.out.at' HST.out.le HST.out.max'
          rw [List.length_replicate] at htk
          refine htk.mono ?_
          rintro e w2 ⟨h1, _⟩
          obtain ⟨rfl, ho2⟩ := h1 _ D1.out
          clear h1 htk
          have hs2 := ho2.size
          go_wp2_with (at_builtin; refine wpList_append_any _ rfl _ _ 33 rfl (w2.heap.size + 1) 5 i5 (.int .u8 0) 1 1 Try.underlying33 hi hz0 hz1 hz2 rfl (by decide) (.slice (some ⟨w2.heap.size + 1, 0, none⟩) 0 0) 0 [] rfl ?own (some ⟨w1.heap.size, 0, none⟩) kN kN (Lib.byteCells (List.replicate kN 3)) rfl ?src ?c3 ?c4 ?c5 ?_)
          case own => exact ⟨rfl, .inr ⟨w2.heap.size + 1, 0, #[], rfl, Nat.le_refl _, by have := heap_alloc_new (w2.alloc (.cells #[.int .i64 0, .int .i64 0, .string ⟨#[]⟩, .slice none 0 0] 30)) (.cells #[] 5); simpa using this, Nat.le_refl _, Nat.zero_le _, rfl, rfl⟩⟩
          case src => exact (HST.out.later ((ho2.alloc hs2 _).alloc (by simp; omega) _)).src' (by simp)
          case c3 => unfold maxLen; omega
          case c4 => omega
          case c5 => simp
          intro v3 w3 hown3 hgrow3 hat3
          have o3 : OwnB w3 (w2.heap.size + 1) v3 (List.replicate kN 3) := by unfold OwnB; rw [List.length_replicate]; simpa using hown3
          have hb3 : Below w2.heap.size w2 w3 := Below.trans (Below.alloc (Below.alloc (Below.refl _ _) (Nat.le_refl _) _) (by simp) _) (grown_below hgrow3 (fun q e => by simp [Value.ownBlock] at e; omega) (by simp; omega))
          have hs3 := hgrow3.size
          simp only [World.heap_size_alloc'] at hs3
          have O3 : Hid (OwnB w3 (w2.heap.size + 1) v3 (List.replicate kN 3)) := o3
          clear hown3 hgrow3 hat3 o3
          go_wp2_with (at_builtin; refine wpList_append_any _ rfl _ _ 33 rfl (w2.heap.size + 1) 5 i5 (.int .u8 0) 1 1 Try.underlying33 hi hz0 hz1 hz2 rfl (by decide) v3 kN (Lib.byteCells (List.replicate kN 3)) rfl ?own (some ⟨w3.heap.size, 0, none⟩) 1 1 [.int .u8 9] rfl ?src ?c3 ?c4 ?c5 ?_)
          case own => have := World.ownsRow.alloc O3.out (.cells #[.int .u8 9] 5); rw [List.length_replicate] at this; exact this
          case src => exact .inr ⟨_, rfl, rfl, World.news_of_block (t := 5) (fr := (0, 0)) (heap_alloc_new w3 _), by simp [Value.oneCell']⟩
          case c3 => unfold maxLen; omega
          case c4 => omega
          case c5 => simp; omega
          intro v4 w4 hown4 hgrow4 hat4
          obtain ⟨zt, hzt⟩ : ∃ zt : List UInt8, zt = List.replicate kN 3 ++ [9] := ⟨_, rfl⟩
          have o4 : OwnB w4 (w2.heap.size + 1) v4 zt := by
            unfold OwnB; rw [hzt, List.length_append, List.length_replicate, ← byteCells_append]; exact hown4
          have hb4 : Below w2.heap.size w2 w4 := hb3.trans ((Below.alloc (Below.refl _ _) hb3.size _).trans (grown_below hgrow4 (fun q e => by have := (O3.out.base q e).1; omega) (by have := hb3.size; simp; omega)))
          obtain ⟨A4, k4, rfl, hst4⟩ := o4.stays
          have Hzt : Hid (tk 16 0 zt = .error er2) := by show tk 16 0 zt = _; rw [hzt]; exact D2.out
          have HS4 : Hid (Stays w4 A4 k4 zt) := hst4
          clear hown4 hgrow4 hat4 o4 hzt hst4 O3 hb3
          go_wp2_with fail
          refine (take_any w4 A4 k4 zt HS4.out.at' HS4.out.le HS4.out.max').mono ?_
          rintro e w5 ⟨h1, _⟩
          obtain ⟨rfl, ho5⟩ := h1 _ Hzt.out
          clear h1
          have hbr2 : Below w.heap.size w w2 := hbr.trans (ho2.mono hbr.size)
          have hbr4 : Below w.heap.size w w4 := hbr2.trans (hb4.mono hbr2.size)
          have hbr5 : Below w.heap.size w w5 := hbr4.trans (ho5.mono hbr4.size)
          go_wp2_with fail
          obtain ⟨W5, hW5⟩ : ∃ W5 : World, W5 = w5.alloc (.cells #[.int .i64 0, .int .i64 0, .string ⟨#[]⟩, .slice none 0 0] 30) := ⟨_, rfl⟩
          have hbW5 : Below w.heap.size w W5 := by rw [hW5]; exact hbr5.alloc hbr5.size _
          have HW5s : Hid (W5.heap.size = w5.heap.size + 1) := by show W5.heap.size = _; rw [hW5]; simp
          rw [← hW5]
          clear hW5
          go_loopw [15, 16] (fun cv iv wr => ∃ i : Nat, iv = .int .i64 (i : Int) ∧ i ≤ jN ∧ OwnB wr W5.heap.size cv (pairs i) ∧ Below W5.heap.size W5 wr) (fun _ iv _ => jN - (intOf iv).toNat)
          case atStart => exact ⟨0, rfl, by omega, OwnB.nil _ _, Below.refl _ _⟩
          case round =>
            obtain ⟨i, rfl, hij, hoc, hbc⟩ := hrel
            have HOC : Hid (OwnB wr W5.heap.size u15 (pairs i)) := hoc
            have hpl := pairs_len i
            have hsc := hbc.size
            by_cases hlt2 : (i : Int) < (jN : Int)
            · clear hoc
              go_wp2_with (at_builtin; refine wpList_append_any _ rfl _ _ 33 rfl W5.heap.size 5 i5 (.int .u8 0) 1 1 Try.underlying33 hi hz0 hz1 hz2 rfl (by decide) u15 (6 * i) (Lib.byteCells (pairs i)) rfl ?own (some ⟨wr.heap.size, 0, none⟩) 6 6 [.int .u8 7, .int .u8 2, .int .u8 0, .int .u8 0, .int .u8 0, .int .u8 1] rfl ?src ?c3 ?c4 ?c5 ?_)
              case own => have := World.ownsRow.alloc HOC.out (.cells #[.int .u8 7, .int .u8 2, .int .u8 0, .int .u8 0, .int .u8 0, .int .u8 1] 5); rw [hpl] at this; exact this
              case src => exact .inr ⟨_, rfl, rfl, World.news_of_block (t := 5) (fr := (0, 0)) (heap_alloc_new wr _), by simp [Value.oneCell']⟩
              case c3 => unfold maxLen; omega
              case c4 => omega
              case c5 => simp; omega
              intro v7 w7 hown7 hgrow7 hat7
              have o7 : Hid (OwnB w7 W5.heap.size v7 (pairs (i + 1))) := by
                show OwnB w7 W5.heap.size v7 (pairs (i + 1))
                unfold OwnB; rw [pairs, List.length_append, hpl, ← byteCells_append]; exact hown7
              have hb7 : Below W5.heap.size W5 w7 := hbc.trans ((Below.alloc (Below.refl _ _) hsc _).trans (grown_below hgrow7 (fun q e => (HOC.out.base q e).1) (by simp; omega)))
              clear hown7 hgrow7 hat7 HOC
              go_wp2_with fail
              go_roundw
              case rel => exact ⟨i + 1, by go_num, by omega, o7.out, hb7⟩
              case measure => simp [intOf]; omega
            · obtain rfl : jN = i := by omega
              obtain ⟨A7, k7, rfl, hst7⟩ := hoc.stays
              have HS7 : Hid (Stays wr A7 k7 (pairs jN)) := hst7
              clear hoc hst7 HOC
              rw [hpl]
              have hbwr : Below w.heap.size w wr := hbW5.trans (hbc.mono hbW5.size)
              have hcsz := hbwr.size
              clear hbc hsc
              go_wp2_with fail
              have htk := take_any wr A7 k7 (pairs jN) HS7.out.at' HS7.out.le HS7.out.max'
              rw [hpl] at htk
              refine htk.mono ?_
              rintro e w8 ⟨h1, _⟩
              obtain ⟨rfl, ho8⟩ := h1 _ D3.out
              clear h1 htk
              have hb8 : Below w.heap.size w w8 := hbwr.trans (ho8.mono hcsz)
              by_cases h16 : 16 ≤ kN
              · obtain rfl : er1 = 4 := by rw [he1.out, if_pos h16]
                obtain rfl : er2 = 4 := by rw [he2.out, if_pos h16]
                by_cases j16 : jN < 16
                · obtain rfl : er3 = 1 := by rw [he3.out, if_pos j16]
                  go_wp2_with fail
                  go_ret
                  exact ⟨ret_bool (by simp <;> omega), hb8.alloc hb8.size _⟩
                · obtain rfl : er3 = 4 := by rw [he3.out, if_neg j16]
                  go_wp2_with fail
                  go_ret
                  exact ⟨ret_bool (by simp <;> omega), hb8.alloc hb8.size _⟩
              · obtain rfl : er1 = 1 := by rw [he1.out, if_neg h16]
                obtain rfl : er2 = 2 := by rw [he2.out, if_neg h16]
                by_cases j16 : jN < 16
                · obtain rfl : er3 = 1 := by rw [he3.out, if_pos j16]
                  go_wp2_with fail
                  go_ret
                  exact ⟨ret_bool (by simp <;> omega), hb8.alloc hb8.size _⟩
                · obtain rfl : er3 = 4 := by rw [he3.out, if_neg j16]
                  go_wp2_with fail
                  go_ret
                  exact ⟨ret_bool (by simp <;> omega), hb8.alloc hb8.size _⟩
  · rcases hjc with hjc | ⟨hjc, hjl⟩
    · go_wp2_with fail
      go_loopw [8] (fun iv wr => ∃ i : Nat, iv = .int .i64 (i : Int) ∧ i ≤ kN ∧ Laid3 w1 wr w1.heap.size kN i) (fun iv _ => kN - (intOf iv).toNat)
      case atStart => 
        refine ⟨0, rfl, by omega, Below.alloc (Below.refl _ _) (Nat.le_refl _) _, by simp, fun j hj => by omega, fun j hj => ⟨.int .u8 0, by simp [go_sem, madeCells, hj, Nat.mod_one]⟩, fun j => by simp [go_sem]⟩
      case round =>
        obtain ⟨i, rfl, hik, hlaid⟩ := hrel
        by_cases hlt : (i : Int) < (kN : Int)
        · obtain ⟨z, hz⟩ := hlaid.free i (by omega)
          have hsf := hlaid.soft i
          have hsz := hlaid.size
          have HL : Hid (Laid3 w1 wr w1.heap.size kN i) := hlaid
          clear hlaid hmk
          go_wp2_with fail
          go_roundw
          case rel => exact ⟨i + 1, by go_num, by omega, HL.out.step (by omega)⟩
          case measure => simp [intOf]; omega
        · obtain rfl : kN = i := by omega
          have HST : Hid (Stays wr (some ⟨w1.heap.size, 0, none⟩) kN (List.replicate kN 3)) := hlaid.stays (by omega)
          have hbr : Below w.heap.size w wr := ho1.trans (hlaid.below.mono ho1.size)
          obtain ⟨wo, hwo⟩ : ∃ wo : World, wo = wr := ⟨_, rfl⟩
          clear hlaid hmk
          go_wp2_with fail
          have htk := take_any wr (some ⟨w1.heap.size, 0, none⟩) kN (List.replicate kN 3) HST.out.at' HST.out.le HST.out.max'
          rw [List.length_replicate] at htk
          refine htk.mono ?_
          rintro e w2 ⟨h1, _⟩
          obtain ⟨rfl, ho2⟩ := h1 _ D1.out
          clear h1 htk
          have hs2 := ho2.size
          go_wp2_with (at_builtin; refine wpList_append_any _ rfl _ _ 33 rfl (w2.heap.size + 1) 5 i5 (.int .u8 0) 1 1 Try.underlying33 hi hz0 hz1 hz2 rfl (by decide) (.slice (some ⟨w2.heap.size + 1, 0, none⟩) 0 0) 0 [] rfl ?own (some ⟨w1.heap.size, 0, none⟩) kN kN (Lib.byteCells (List.replicate kN 3)) rfl ?src ?c3 ?c4 ?c5 ?_)
          case own => exact ⟨rfl, .inr ⟨w2.heap.size + 1, 0, #[], rfl, Nat.le_refl _, by have := heap_alloc_new (w2.alloc (.cells #[.int .i64 0, .int .i64 0, .string ⟨#[]⟩, .slice none 0 0] 30)) (.cells #[] 5); simpa using this, Nat.le_refl _, Nat.zero_le _, rfl, rfl⟩⟩
          case src => exact (HST.out.later ((ho2.alloc hs2 _).alloc (by simp; omega) _)).src' (by simp)
          case c3 => unfold maxLen; omega
          case c4 => omega
          case c5 => simp
          intro v3 w3 hown3 hgrow3 hat3
          have o3 : OwnB w3 (w2.heap.size + 1) v3 (List.replicate kN 3) := by unfold OwnB; rw [List.length_replicate]; simpa using hown3
          have hb3 : Below w2.heap.size w2 w3 := Below.trans (Below.alloc (Below.alloc (Below.refl _ _) (Nat.le_refl _) _) (by simp) _) (grown_below hgrow3 (fun q e => by simp [Value.ownBlock] at e; omega) (by simp; omega))
          have hs3 := hgrow3.size
          simp only [World.heap_size_alloc'] at hs3
          have O3 : Hid (OwnB w3 (w2.heap.size + 1) v3 (List.replicate kN 3)) := o3
          clear hown3 hgrow3 hat3 o3
          go_wp2_with (at_builtin; refine wpList_append_any _ rfl _ _ 33 rfl (w2.heap.size + 1) 5 i5 (.int .u8 0) 1 1 Try.underlying33 hi hz0 hz1 hz2 rfl (by decide) v3 kN (Lib.byteCells (List.replicate kN 3)) rfl ?own (some ⟨w3.heap.size, 0, none⟩) 1 1 [.int .u8 9] rfl ?src ?c3 ?c4 ?c5 ?_)
          case own => have := World.ownsRow.alloc O3.out (.cells #[.int .u8 9] 5); rw [List.length_replicate] at this; exact this
          case src => exact .inr ⟨_, rfl, rfl, World.news_of_block (t := 5) (fr := (0, 0)) (heap_alloc_new w3 _), by simp [Value.oneCell']⟩
          case c3 => unfold maxLen; omega
          case c4 => omega
          case c5 => simp; omega
          intro v4 w4 hown4 hgrow4 hat4
          obtain ⟨zt, hzt⟩ : ∃ zt : List UInt8, zt = List.replicate kN 3 ++ [9] := ⟨_, rfl⟩
          have o4 : OwnB w4 (w2.heap.size + 1) v4 zt := by
            unfold OwnB; rw [hzt, List.length_append, List.length_replicate, ← byteCells_append]; exact hown4
          have hb4 : Below w2.heap.size w2 w4 := hb3.trans ((Below.alloc (Below.refl _ _) hb3.size _).trans (grown_below hgrow4 (fun q e => by have := (O3.out.base q e).1; omega) (by have := hb3.size; simp; omega)))
          obtain ⟨A4, k4, rfl, hst4⟩ := o4.stays
          have Hzt : Hid (tk 16 0 zt = .error er2) := by show tk 16 0 zt = _; rw [hzt]; exact D2.out
          have HS4 : Hid (Stays w4 A4 k4 zt) := hst4
          clear hown4 hgrow4 hat4 o4 hzt hst4 O3 hb3
          go_wp2_with fail
          refine (take_any w4 A4 k4 zt HS4.out.at' HS4.out.le HS4.out.max').mono ?_
          rintro e w5 ⟨h1, _⟩
          obtain ⟨rfl, ho5⟩ := h1 _ Hzt.out
          clear h1
          have hbr2 : Below w.heap.size w w2 := hbr.trans (ho2.mono hbr.size)
          have hbr4 : Below w.heap.size w w4 := hbr2.trans (hb4.mono hbr2.size)
          have hbr5 : Below w.heap.size w w5 := hbr4.trans (ho5.mono hbr4.size)
          go_wp2_with fail
          obtain ⟨W5, hW5⟩ : ∃ W5 : World, W5 = w5.alloc (.cells #[.int .i64 0, .int .i64 0, .string ⟨#[]⟩, .slice none 0 0] 30) := ⟨_, rfl⟩
          have hbW5 : Below w.heap.size w W5 := by rw [hW5]; exact hbr5.alloc hbr5.size _
          have HW5s : Hid (W5.heap.size = w5.heap.size + 1) := by show W5.heap.size = _; rw [hW5]; simp
          rw [← hW5]
          clear hW5
          go_loopw [15, 16] (fun cv iv wr => ∃ i : Nat, iv = .int .i64 (i : Int) ∧ i ≤ jN ∧ OwnB wr W5.heap.size cv (pairs i) ∧ Below W5.heap.size W5 wr) (fun _ iv _ => jN - (intOf iv).toNat)
          case atStart => exact ⟨0, rfl, by omega, OwnB.nil _ _, Below.refl _ _⟩
          case round =>
            obtain ⟨i, rfl, hij, hoc, hbc⟩ := hrel
            have HOC : Hid (OwnB wr W5.heap.size u15 (pairs i)) := hoc
            have hpl := pairs_len i
            have hsc := hbc.size
            by_cases hlt2 : (i : Int) < (jN : Int)
            · clear hoc
              go_wp2_with (at_builtin; refine wpList_append_any _ rfl _ _ 33 rfl W5.heap.size 5 i5 (.int .u8 0) 1 1 Try.underlying33 hi hz0 hz1 hz2 rfl (by decide) u15 (6 * i) (Lib.byteCells (pairs i)) rfl ?own (some ⟨wr.heap.size, 0, none⟩) 6 6 [.int .u8 7, .int .u8 2, .int .u8 0, .int .u8 0, .int .u8 0, .int .u8 1] rfl ?src ?c3 ?c4 ?c5 ?_)
              case own => have := World.ownsRow.alloc HOC.out (.cells #[.int .u8 7, .int .u8 2, .int .u8 0, .int .u8 0, .int .u8 0, .int .u8 1] 5); rw [hpl] at this; exact this
              case src => exact .inr ⟨_, rfl, rfl, World.news_of_block (t := 5) (fr := (0, 0)) (heap_alloc_new wr _), by simp [Value.oneCell']⟩
              case c3 => unfold maxLen; omega
              case c4 => omega
              case c5 => simp; omega
              intro v7 w7 hown7 hgrow7 hat7
              have o7 : Hid (OwnB w7 W5.heap.size v7 (pairs (i + 1))) := by
                show OwnB w7 W5.heap.size v7 (pairs (i + 1))
                unfold OwnB; rw [pairs, List.length_append, hpl, ← byteCells_append]; exact hown7
              have hb7 : Below W5.heap.size W5 w7 := hbc.trans ((Below.alloc (Below.refl _ _) hsc _).trans (grown_below hgrow7 (fun q e => (HOC.out.base q e).1) (by simp; omega)))
              clear hown7 hgrow7 hat7 HOC
              go_wp2_with fail
              go_roundw
              case rel => exact ⟨i + 1, by go_num, by omega, o7.out, hb7⟩
              case measure => simp [intOf]; omega
            · obtain rfl : jN = i := by omega
              obtain ⟨A7, k7, rfl, hst7⟩ := hoc.stays
              have HS7 : Hid (Stays wr A7 k7 (pairs jN)) := hst7
              clear hoc hst7 HOC
              rw [hpl]
              have hbwr : Below w.heap.size w wr := hbW5.trans (hbc.mono hbW5.size)
              have hcsz := hbwr.size
              clear hbc hsc
              go_wp2_with fail
              have htk := take_any wr A7 k7 (pairs jN) HS7.out.at' HS7.out.le HS7.out.max'
              rw [hpl] at htk
              refine htk.mono ?_
              rintro e w8 ⟨h1, _⟩
              obtain ⟨rfl, ho8⟩ := h1 _ D3.out
              clear h1 htk
              have hb8 : Below w.heap.size w w8 := hbwr.trans (ho8.mono hcsz)
              by_cases h16 : 16 ≤ kN
              · obtain rfl : er1 = 4 := by rw [he1.out, if_pos h16]
                obtain rfl : er2 = 4 := by rw [he2.out, if_pos h16]
                by_cases j16 : jN < 16
                · obtain rfl : er3 = 1 := by rw [he3.out, if_pos j16]
                  go_wp2_with fail
                  go_ret
                  exact ⟨ret_bool (by simp <;> omega), hb8.alloc hb8.size _⟩
                · obtain rfl : er3 = 4 := by rw [he3.out, if_neg j16]
                  go_wp2_with fail
                  go_ret
                  exact ⟨ret_bool (by simp <;> omega), hb8.alloc hb8.size _⟩
              · obtain rfl : er1 = 1 := by rw [he1.out, if_neg h16]
                obtain rfl : er2 = 2 := by rw [he2.out, if_neg h16]
                by_cases j16 : jN < 16
                · obtain rfl : er3 = 1 := by rw [he3.out, if_pos j16]
                  go_wp2_with fail
                  go_ret
                  exact ⟨ret_bool (by simp <;> omega), hb8.alloc hb8.size _⟩
                · obtain rfl : er3 = 4 := by rw [he3.out, if_neg j16]
                  go_wp2_with fail
                  go_ret
                  exact ⟨ret_bool (by simp <;> omega), hb8.alloc hb8.size _⟩
    · go_wp2_with fail
      go_loopw [8] (fun iv wr => ∃ i : Nat, iv = .int .i64 (i : Int) ∧ i ≤ kN ∧ Laid3 w1 wr w1.heap.size kN i) (fun iv _ => kN - (intOf iv).toNat)
      case atStart => 
        refine ⟨0, rfl, by omega, Below.alloc (Below.refl _ _) (Nat.le_refl _) _, by simp, fun j hj => by omega, fun j hj => ⟨.int .u8 0, by simp [go_sem, madeCells, hj, Nat.mod_one]⟩, fun j => by simp [go_sem]⟩
      case round =>
        obtain ⟨i, rfl, hik, hlaid⟩ := hrel
        by_cases hlt : (i : Int) < (kN : Int)
        · obtain ⟨z, hz⟩ := hlaid.free i (by omega)
          have hsf := hlaid.soft i
          have hsz := hlaid.size
          have HL : Hid (Laid3 w1 wr w1.heap.size kN i) := hlaid
          clear hlaid hmk
          go_wp2_with fail
          go_roundw
          case rel => exact ⟨i + 1, by go_num, by omega, HL.out.step (by omega)⟩
          case measure => simp [intOf]; omega
        · obtain rfl : kN = i := by omega
          have HST : Hid (Stays wr (some ⟨w1.heap.size, 0, none⟩) kN (List.replicate kN 3)) := hlaid.stays (by omega)
          have hbr : Below w.heap.size w wr := ho1.trans (hlaid.below.mono ho1.size)
          obtain ⟨wo, hwo⟩ : ∃ wo : World, wo = wr := ⟨_, rfl⟩
          clear hlaid hmk
          go_wp2_with fail
          have htk := take_any wr (some ⟨w1.heap.size, 0, none⟩) kN (List.replicate kN 3) HST.out.at' HST.out.le HST.out.max'
          rw [List.length_replicate] at htk
          refine htk.mono ?_
          rintro e w2 ⟨h1, _⟩
          obtain ⟨rfl, ho2⟩ := h1 _ D1.out
          clear h1 htk
          have hs2 := ho2.size
          go_wp2_with (at_builtin; refine wpList_append_any _ rfl _ _ 33 rfl (w2.heap.size + 1) 5 i5 (.int .u8 0) 1 1 Try.underlying33 hi hz0 hz1 hz2 rfl (by decide) (.slice (some ⟨w2.heap.size + 1, 0, none⟩) 0 0) 0 [] rfl ?own (some ⟨w1.heap.size, 0, none⟩) kN kN (Lib.byteCells (List.replicate kN 3)) rfl ?src ?c3 ?c4 ?c5 ?_)
          case own => exact ⟨rfl, .inr ⟨w2.heap.size + 1, 0, #[], rfl, Nat.le_refl _, by have := heap_alloc_new (w2.alloc (.cells #[.int .i64 0, .int .i64 0, .string ⟨#[]⟩, .slice none 0 0] 30)) (.cells #[] 5); simpa using this, Nat.le_refl _, Nat.zero_le _, rfl, rfl⟩⟩
          case src => exact (HST.out.later ((ho2.alloc hs2 _).alloc (by simp; omega) _)).src' (by simp)
          case c3 => unfold maxLen; omega
          case c4 => omega
          case c5 => simp
          intro v3 w3 hown3 hgrow3 hat3
          have o3 : OwnB w3 (w2.heap.size + 1) v3 (List.replicate kN 3) := by unfold OwnB; rw [List.length_replicate]; simpa using hown3
          have hb3 : Below w2.heap.size w2 w3 := Below.trans (Below.alloc (Below.alloc (Below.refl _ _) (Nat.le_refl _) _) (by simp) _) (grown_below hgrow3 (fun q e => by simp [Value.ownBlock] at e; omega) (by simp; omega))
          have hs3 := hgrow3.size
          simp only [World.heap_size_alloc'] at hs3
          have O3 : Hid (OwnB w3 (w2.heap.size + 1) v3 (List.replicate kN 3)) := o3
          clear hown3 hgrow3 hat3 o3
          go_wp2_with (at_builtin; refine wpList_append_any _ rfl _ _ 33 rfl (w2.heap.size + 1) 5 i5 (.int .u8 0) 1 1 Try.underlying33 hi hz0 hz1 hz2 rfl (by decide) v3 kN (Lib.byteCells (List.replicate kN 3)) rfl ?own (some ⟨w3.heap.size, 0, none⟩) 1 1 [.int .u8 9] rfl ?src ?c3 ?c4 ?c5 ?_)
          case own => have := World.ownsRow.alloc O3.out (.cells #[.int .u8 9] 5); rw [List.length_replicate] at this; exact this
          case src => exact .inr ⟨_, rfl, rfl, World.news_of_block (t := 5) (fr := (0, 0)) (heap_alloc_new w3 _), by simp [Value.oneCell']⟩
          case c3 => unfold maxLen; omega
          case c4 => omega
          case c5 => simp; omega
          intro v4 w4 hown4 hgrow4 hat4
          obtain ⟨zt, hzt⟩ : ∃ zt : List UInt8, zt = List.replicate kN 3 ++ [9] := ⟨_, rfl⟩
          have o4 : OwnB w4 (w2.heap.size + 1) v4 zt := by
            unfold OwnB; rw [hzt, List.length_append, List.length_replicate, ← byteCells_append]; exact hown4
          have hb4 : Below w2.heap.size w2 w4 := hb3.trans ((Below.alloc (Below.refl _ _) hb3.size _).trans (grown_below hgrow4 (fun q e => by have := (O3.out.base q e).1; omega) (by have := hb3.size; simp; omega)))
          obtain ⟨A4, k4, rfl, hst4⟩ := o4.stays
          have Hzt : Hid (tk 16 0 zt = .error er2) := by show tk 16 0 zt = _; rw [hzt]; exact D2.out
          have HS4 : Hid (Stays w4 A4 k4 zt) := hst4
          clear hown4 hgrow4 hat4 o4 hzt hst4 O3 hb3
          go_wp2_with fail
          refine (take_any w4 A4 k4 zt HS4.out.at' HS4.out.le HS4.out.max').mono ?_
          rintro e w5 ⟨h1, _⟩
          obtain ⟨rfl, ho5⟩ := h1 _ Hzt.out
          clear h1
          have hbr2 : Below w.heap.size w w2 := hbr.trans (ho2.mono hbr.size)
          have hbr4 : Below w.heap.size w w4 := hbr2.trans (hb4.mono hbr2.size)
          have hbr5 : Below w.heap.size w w5 := hbr4.trans (ho5.mono hbr4.size)
          go_wp2_with fail
          obtain ⟨W5, hW5⟩ : ∃ W5 : World, W5 = w5.alloc (.cells #[.int .i64 0, .int .i64 0, .string ⟨#[]⟩, .slice none 0 0] 30) := ⟨_, rfl⟩
          have hbW5 : Below w.heap.size w W5 := by rw [hW5]; exact hbr5.alloc hbr5.size _
          have HW5s : Hid (W5.heap.size = w5.heap.size + 1) := by show W5.heap.size = _; rw [hW5]; simp
          rw [← hW5]
          clear hW5
          go_loopw [15, 16] (fun cv iv wr => ∃ i : Nat, iv = .int .i64 (i : Int) ∧ i ≤ jN ∧ OwnB wr W5.heap.size cv (pairs i) ∧ Below W5.heap.size W5 wr) (fun _ iv _ => jN - (intOf iv).toNat)
          case atStart => exact ⟨0, rfl, by omega, OwnB.nil _ _, Below.refl _ _⟩
          case round =>
            obtain ⟨i, rfl, hij, hoc, hbc⟩ := hrel
            have HOC : Hid (OwnB wr W5.heap.size u15 (pairs i)) := hoc
            have hpl := pairs_len i
            have hsc := hbc.size
            by_cases hlt2 : (i : Int) < (jN : Int)
            · clear hoc
              go_wp2_with (at_builtin; refine wpList_append_any _ rfl _ _ 33 rfl W5.heap.size 5 i5 (.int .u8 0) 1 1 Try.underlying33 hi hz0 hz1 hz2 rfl (by decide) u15 (6 * i) (Lib.byteCells (pairs i)) rfl ?own (some ⟨wr.heap.size, 0, none⟩) 6 6 [.int .u8 7, .int .u8 2, .int .u8 0, .int .u8 0, .int .u8 0, .int .u8 1] rfl ?src ?c3 ?c4 ?c5 ?_)
              case own => have := World.ownsRow.alloc HOC.out (.cells #[.int .u8 7, .int .u8 2, .int .u8 0, .int .u8 0, .int .u8 0, .int .u8 1] 5); rw [hpl] at this; exact this
              case src => exact .inr ⟨_, rfl, rfl, World.news_of_block (t := 5) (fr := (0, 0)) (heap_alloc_new wr _), by simp [Value.oneCell']⟩
              case c3 => unfold maxLen; omega
              case c4 => omega
              case c5 => simp; omega
              intro v7 w7 hown7 hgrow7 hat7
              have o7 : Hid (OwnB w7 W5.heap.size v7 (pairs (i + 1))) := by
                show OwnB w7 W5.heap.size v7 (pairs (i + 1))
                unfold OwnB; rw [pairs, List.length_append, hpl, ← byteCells_append]; exact hown7
              have hb7 : Below W5.heap.size W5 w7 := hbc.trans ((Below.alloc (Below.refl _ _) hsc _).trans (grown_below hgrow7 (fun q e => (HOC.out.base q e).1) (by simp; omega)))
              clear hown7 hgrow7 hat7 HOC
              go_wp2_with fail
              go_roundw
              case rel => exact ⟨i + 1, by go_num, by omega, o7.out, hb7⟩
              case measure => simp [intOf]; omega
            · obtain rfl : jN = i := by omega
              obtain ⟨A7, k7, rfl, hst7⟩ := hoc.stays
              have HS7 : Hid (Stays wr A7 k7 (pairs jN)) := hst7
              clear hoc hst7 HOC
              rw [hpl]
              have hbwr : Below w.heap.size w wr := hbW5.trans (hbc.mono hbW5.size)
              have hcsz := hbwr.size
              clear hbc hsc
              go_wp2_with fail
              have htk := take_any wr A7 k7 (pairs jN) HS7.out.at' HS7.out.le HS7.out.max'
              rw [hpl] at htk
              refine htk.mono ?_
              rintro e w8 ⟨h1, _⟩
              obtain ⟨rfl, ho8⟩ := h1 _ D3.out
              clear h1 htk
              have hb8 : Below w.heap.size w w8 := hbwr.trans (ho8.mono hcsz)
              by_cases h16 : 16 ≤ kN
              · obtain rfl : er1 = 4 := by rw [he1.out, if_pos h16]
                obtain rfl : er2 = 4 := by rw [he2.out, if_pos h16]
                by_cases j16 : jN < 16
                · obtain rfl : er3 = 1 := by rw [he3.out, if_pos j16]
                  go_wp2_with fail
                  go_ret
                  exact ⟨ret_bool (by simp <;> omega), hb8.alloc hb8.size _⟩
                · obtain rfl : er3 = 4 := by rw [he3.out, if_neg j16]
                  go_wp2_with fail
                  go_ret
                  exact ⟨ret_bool (by simp <;> omega), hb8.alloc hb8.size _⟩
              · obtain rfl : er1 = 1 := by rw [he1.out, if_neg h16]
                obtain rfl : er2 = 2 := by rw [he2.out, if_neg h16]
                by_cases j16 : jN < 16
                · obtain rfl : er3 = 1 := by rw [he3.out, if_pos j16]
                  go_wp2_with fail
                  go_ret
                  exact ⟨ret_bool (by simp <;> omega), hb8.alloc hb8.size _⟩
                · obtain rfl : er3 = 4 := by rw [he3.out, if_neg j16]
                  go_wp2_with fail
                  go_ret
                  exact ⟨ret_bool (by simp <;> omega), hb8.alloc hb8.size _⟩

end Go.Proofs.Ytfoadbnllcfieaa
