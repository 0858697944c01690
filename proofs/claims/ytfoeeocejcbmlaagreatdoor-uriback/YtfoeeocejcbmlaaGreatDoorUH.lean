import Derived.Test.YtfoeeocejcbmlaaGreatDoorUP
import Derived.Test.YtfoeeocejcbmlaaGreatDoorQE
import Derived.Test.YtfoeeocejcbmlaaGreatDoorQC
import Derived.Test.YtfoeeocejcbmlaaGreatDoorQJ
namespace Go.Proofs.YtfoeeocejcbmlaaGreatDoor
open Go.RowKit
set_option linter.unusedVariables false
set_option linter.unusedSimpArgs false

theorem SplitAt.mk {w w' : World} {s : ByteArray} {n : Int} {p : ByteArray} {l : List Fd} (e : splF s = (n, p, l)) {q : Value} (ho : OwnF w' w.heap.size q l) (hb : Below w.heap.size w w') : SplitAt w s (.returned (.tuple #[.string p, q, .int .i64 n])) w' := by
  unfold SplitAt; rw [e]; exact ⟨q, rfl, ho, hb⟩
theorem ParseAt.mk {w w' : World} {s : ByteArray} {n : Int} {h p : ByteArray} {l : List Fd} (e : prsF s = (n, h, p, l)) {q : Value} (ho : OwnF w' w.heap.size q l) (hb : Below w.heap.size w w') : ParseAt w s (.returned (.tuple #[.agg #[.string h, .string p, q], .int .i64 n])) w' := by
  unfold ParseAt; rw [e]; exact ⟨q, rfl, ho, hb⟩

set_option maxRecDepth 100000 in
set_option maxHeartbeats 2000000 in
theorem rsplit_any (s : ByteArray) (hs : s.size ≤ 100000) (w : World) :
    Calls Tryz.prog 10 #[.string s] w fun e w' => SplitAt w s e w' := by
  have HS : Hid (splF s = if 1024 < s.size then (4, ⟨#[]⟩, []) else tgtF s) := rfl
  by_cases hs1 : 1024 < s.size
  · have hs1' : (s.size : Int) > 1024 := by omega
    have HS2 : Hid (splF s = (4, ⟨#[]⟩, [])) := by show _ = _; rw [HS.out, if_pos hs1]
    clear HS
    go_enter Tryz.func10, Tryz.ntmps10
    go_wp2_with fail
    exact bodyPost_ret (v := .tuple #[.string ⟨#[]⟩, .slice none 0 0, .int .i64 4]) (by simp [results, Tryz.results10, go_sem]) rfl (SplitAt.mk HS2.out (OwnF.nil _ _) (Below.refl _ _))
  · have hs1' : ¬ (s.size : Int) > 1024 := by omega
    have HT : Hid (splF s = if isPath (cutX 63 s) = true ∧ ¬ (cutZ 63 s = true ∧ (cutY 63 s).size = 0) then
        if (parF (cutY 63 s)).1 = 0 then (0, cutX 63 s, (parF (cutY 63 s)).2) else ((parF (cutY 63 s)).1, ⟨#[]⟩, [])
      else (3, ⟨#[]⟩, [])) := by show _ = _; rw [HS.out, if_neg hs1]; rfl
    have kc := fun W => rcut_any 63 s W (by omega)
    have kp := fun W => rpath_any (cutX 63 s) W (by have := (cut_size 63 s).1; omega)
    have kq := fun W => rparse_any (cutY 63 s) (by have := (cut_size 63 s).2.1; omega) W
    unfold ParseEnd at kq
    clear HS
    generalize isPath (cutX 63 s) = bp at *
    generalize cutX 63 s = x at *
    generalize cutZ 63 s = z at *
    generalize cutY 63 s = y at *
    generalize (parF y).1 = er at *
    generalize (parF y).2 = l at *
    go_enter Tryz.func10, Tryz.ntmps10
    go_wp2_with fail
    refine (kc _).mono ?_
    rintro e w1 ⟨rfl, hb1⟩
    have HB1 : Hid (Below w.heap.size w w1) := hb1
    clear hb1 kc
    cases bp with
    | false =>
      have HF : Hid (splF s = (3, ⟨#[]⟩, [])) := by show _ = _; rw [HT.out]; simp
      clear HT
      go_wp2_with (go_at_call 30; refine (kp _).mono ?_; rintro e w2 ⟨rfl, hw2⟩; rw [hw2]; clear hw2 w2)
      exact bodyPost_ret (v := .tuple #[.string ⟨#[]⟩, .slice none 0 0, .int .i64 3]) (by simp [results, Tryz.results10, go_sem]) rfl (SplitAt.mk HF.out (OwnF.nil _ _) HB1.out)
    | true =>
      by_cases hy : z = true ∧ y.size = 0
      · have HF : Hid (splF s = (3, ⟨#[]⟩, [])) := by show _ = _; rw [HT.out, if_neg (fun h => h.2 hy)]
        have hem := empL_of hy.2
        obtain rfl := hy.1
        clear HT hy
        go_wp2_with (go_at_call 30; refine (kp _).mono ?_; rintro e w2 ⟨rfl, hw2⟩; rw [hw2]; clear hw2 w2)
        exact bodyPost_ret (v := .tuple #[.string ⟨#[]⟩, .slice none 0 0, .int .i64 3]) (by simp [results, Tryz.results10, go_sem]) rfl (SplitAt.mk HF.out (OwnF.nil _ _) HB1.out)
      · have HT2 : Hid (splF s = if er = 0 then (0, x, l) else (er, ⟨#[]⟩, [])) := by show _ = _; rw [HT.out, if_pos ⟨rfl, hy⟩]
        clear HT
        cases z with
        | false =>
          clear hy
          go_wp2_with (go_at_call 30; refine (kp _).mono ?_; rintro e w2 ⟨rfl, hw2⟩; rw [hw2]; clear hw2 w2)
          refine (kq _).mono ?_
          rintro e w3 ⟨v3, rfl, ho3, hb3⟩
          obtain ⟨A3, cp3, rfl⟩ := slice_ofF ho3
          have HO3 : Hid (OwnF w3 w.heap.size (.slice A3 l.length cp3) l) := ho3.lower HB1.out.size
          have HB3 : Hid (Below w.heap.size w w3) := HB1.out.trans (hb3.mono HB1.out.size)
          clear ho3 hb3
          by_cases hn : er = 0
          · subst hn
            have HF : Hid (splF s = (0, x, l)) := by show _ = _; rw [HT2.out, if_pos rfl]
            clear HT2
            go_wp2_with fail
            exact bodyPost_ret (v := .tuple #[.string x, .slice A3 l.length cp3, .int .i64 0]) (by simp [results, Tryz.results10, go_sem]) rfl (SplitAt.mk HF.out HO3.out HB3.out)
          · have HF : Hid (splF s = (er, ⟨#[]⟩, [])) := by show _ = _; rw [HT2.out, if_neg hn]
            clear HT2
            go_wp2_with fail
            exact bodyPost_ret (v := .tuple #[.string ⟨#[]⟩, .slice none 0 0, .int .i64 er]) (by simp [results, Tryz.results10, go_sem]) rfl (SplitAt.mk HF.out (OwnF.nil _ _) HB3.out)
        | true =>
          have hem := empL_no (fun h => hy ⟨rfl, h⟩)
          clear hy
          go_wp2_with (go_at_call 30; refine (kp _).mono ?_; rintro e w2 ⟨rfl, hw2⟩; rw [hw2]; clear hw2 w2)
          refine (kq _).mono ?_
          rintro e w3 ⟨v3, rfl, ho3, hb3⟩
          obtain ⟨A3, cp3, rfl⟩ := slice_ofF ho3
          have HO3 : Hid (OwnF w3 w.heap.size (.slice A3 l.length cp3) l) := ho3.lower HB1.out.size
          have HB3 : Hid (Below w.heap.size w w3) := HB1.out.trans (hb3.mono HB1.out.size)
          clear ho3 hb3
          by_cases hn : er = 0
          · subst hn
            have HF : Hid (splF s = (0, x, l)) := by show _ = _; rw [HT2.out, if_pos rfl]
            clear HT2
            go_wp2_with fail
            exact bodyPost_ret (v := .tuple #[.string x, .slice A3 l.length cp3, .int .i64 0]) (by simp [results, Tryz.results10, go_sem]) rfl (SplitAt.mk HF.out HO3.out HB3.out)
          · have HF : Hid (splF s = (er, ⟨#[]⟩, [])) := by show _ = _; rw [HT2.out, if_neg hn]
            clear HT2
            go_wp2_with fail
            exact bodyPost_ret (v := .tuple #[.string ⟨#[]⟩, .slice none 0 0, .int .i64 er]) (by simp [results, Tryz.results10, go_sem]) rfl (SplitAt.mk HF.out (OwnF.nil _ _) HB3.out)

theorem pre8 (s : ByteArray) (h : 8 ≤ s.size) : ((s.extract 0 8).toList == [104, 116, 116, 112, 115, 58, 47, 47]) = Lib.hasPrefix s.data.toList httpsL := by
  rw [ByteArray.toList_eq, ext_list, List.drop_zero]
  cases hp : Lib.hasPrefix s.data.toList httpsL with
  | true =>
    obtain ⟨t, e, _⟩ := has_split hp
    rw [e, show ((httpsL ++ t).take (8 - 0)) = httpsL from rfl]; rfl
  | false =>
    rw [beq_eq_false_iff_ne]
    intro e
    have e2 : s.data.toList = httpsL ++ s.data.toList.drop 8 := by
      conv => lhs; rw [← List.take_append_drop 8 s.data.toList]
      rw [show s.data.toList.take 8 = httpsL from e]
    have := has_append httpsL (s.data.toList.drop 8)
    rw [← e2, hp] at this; cases this
theorem pre8_no (s : ByteArray) (h : ¬ 8 ≤ s.size) : Lib.hasPrefix s.data.toList httpsL = false := by
  cases hp : Lib.hasPrefix s.data.toList httpsL with
  | false => rfl
  | true =>
    obtain ⟨t, e, _⟩ := has_split hp
    have := congrArg List.length e
    rw [size_list, List.length_append, show httpsL.length = 8 from rfl] at this; omega

set_option maxRecDepth 100000 in
set_option maxHeartbeats 4000000 in
theorem rparse11_any (s : ByteArray) (hs : s.size ≤ 100000) (w : World) :
    Calls Tryz.prog 8 #[.string s] w fun e w' => ParseAt w s e w' := by
  have HS : Hid (prsF s = if 1024 < s.size then (4, u0) else if Lib.hasPrefix s.data.toList httpsL = true then adrF (s.extract 8 s.size) else (3, u0)) := rfl
  by_cases hs1 : 1024 < s.size
  · have hs1' : (s.size : Int) > 1024 := by omega
    have HS2 : Hid (prsF s = (4, ⟨#[]⟩, ⟨#[]⟩, [])) := by show _ = _; rw [HS.out, if_pos hs1]; rfl
    clear HS
    go_enter Tryz.func8, Tryz.ntmps8
    go_wp2_with fail
    exact bodyPost_ret (v := .tuple #[.agg #[.string ⟨#[]⟩, .string ⟨#[]⟩, .slice none 0 0], .int .i64 4]) (by simp [results, Tryz.results8, go_sem]) rfl (ParseAt.mk HS2.out (OwnF.nil _ _) (by repeat (first | exact Below.refl _ _ | assumption | refine below_drewN ?_ _ | refine Below.drew ?_ | refine Below.alloc ?_ (by simp <;> omega) _ | refine Below.setCell ?_ (by simp <;> omega) _)))
  · have hs1' : ¬ (s.size : Int) > 1024 := by omega
    by_cases h8 : 8 ≤ s.size
    · have h8' : ¬ (s.size : Int) < 8 := by omega
      have h8a : (8 : Int) ≤ (s.size : Int) := by omega
      have heq := pre8 s h8
      cases hp : Lib.hasPrefix s.data.toList httpsL with
      | false =>
        rw [hp] at heq
        have HS2 : Hid (prsF s = (3, ⟨#[]⟩, ⟨#[]⟩, [])) := by show _ = _; rw [HS.out, if_neg hs1, hp, if_neg (by decide)]; rfl
        clear HS hp
        go_enter Tryz.func8, Tryz.ntmps8
        go_wp2_with fail
        exact bodyPost_ret (v := .tuple #[.agg #[.string ⟨#[]⟩, .string ⟨#[]⟩, .slice none 0 0], .int .i64 3]) (by simp [results, Tryz.results8, go_sem]) rfl (ParseAt.mk HS2.out (OwnF.nil _ _) (by repeat (first | exact Below.refl _ _ | assumption | refine below_drewN ?_ _ | refine Below.drew ?_ | refine Below.alloc ?_ (by simp <;> omega) _ | refine Below.setCell ?_ (by simp <;> omega) _)))
      | true =>
        rw [hp] at heq
        have hrs : (s.extract 8 s.size).size = s.size - 8 := by rw [ByteArray.size_extract]; omega
        have HS2 : Hid (prsF s = adrF (s.extract 8 s.size)) := by show _ = _; rw [HS.out, if_neg hs1, hp, if_pos rfl]
        clear HS hp
        generalize hr0 : s.extract 8 s.size = r at *
        have HR : Hid (s.extract 8 s.size = r) := hr0
        have cs := cut_size 47 r
        have HA : Hid (prsF s = if cutZ 47 r = true ∧ isHost (cutX 47 r) = true then
            if (tgtF (⟨#[47]⟩ ++ cutY 47 r)).1 = 0 then (0, cutX 47 r, (tgtF (⟨#[47]⟩ ++ cutY 47 r)).2) else ((tgtF (⟨#[47]⟩ ++ cutY 47 r)).1, u0)
          else (3, u0)) := HS2.out
        have kc := fun W => rcut_any 47 r W (by omega)
        have kh := fun W => rhost_any (cutX 47 r) W (by omega)
        have es : (⟨#[47]⟩ ++ cutY 47 r : ByteArray).size = 1 + (cutY 47 r).size := by rw [ByteArray.size_append]; rfl
        have ks : cutZ 47 r = true → ∀ W, Calls Tryz.prog 10 #[.string (⟨#[47]⟩ ++ cutY 47 r)] W fun e w' => SplitAt W (⟨#[47]⟩ ++ cutY 47 r) e w' := fun hz W => rsplit_any _ (by omega) W
        have HSP : Hid (cutZ 47 r = true → splF (⟨#[47]⟩ ++ cutY 47 r) = tgtF (⟨#[47]⟩ ++ cutY 47 r)) := fun hz => by
          unfold splF
          rw [if_neg (by have := cs.2.2 hz; omega)]
        have z1 : ¬ 9223372036854775807 < 1 + (cutY 47 r).size := by omega
        clear HS2 es cs
        generalize isHost (cutX 47 r) = bh at *
        generalize cutX 47 r = x at *
        generalize cutZ 47 r = z at *
        generalize cutY 47 r = y at *
        go_enter Tryz.func8, Tryz.ntmps8
        go_wp2_with fail
        have b0 : Below w.heap.size w (w.alloc (.cells #[.string ⟨#[]⟩, .string ⟨#[]⟩, .slice none 0 0] 28)) := (by repeat (first | exact Below.refl _ _ | assumption | refine below_drewN ?_ _ | refine Below.drew ?_ | refine Below.alloc ?_ (by simp <;> omega) _ | refine Below.setCell ?_ (by simp <;> omega) _))
        have t0 := Tri3.new w w.heap.size (.string ⟨#[]⟩) (.string ⟨#[]⟩) (.slice none 0 0) 28 rfl
        generalize w.alloc (.cells #[.string ⟨#[]⟩, .string ⟨#[]⟩, .slice none 0 0] 28) = w0 at *
        refine (kc _).mono ?_
        rintro e w1 ⟨rfl, hb1⟩
        have T1 := t0.below hb1
        have HB1 : Hid (Below w.heap.size w w1) := b0.trans (hb1.mono b0.size)
        have HT1 : Hid (Tri3 w.heap.size (.string ⟨#[]⟩) (.string ⟨#[]⟩) (.slice none 0 0) w1) := T1
        clear hb1 kc b0 t0
        by_cases hzh : z = true ∧ bh = true
        · obtain ⟨rfl, rfl⟩ := hzh
          have kss := ks rfl
          have HT : Hid (tgtF (⟨#[47]⟩ ++ y) = splF (⟨#[47]⟩ ++ y)) := (HSP.out rfl).symm
          have HA2 : Hid (prsF s = if (splF (⟨#[47]⟩ ++ y)).1 = 0 then (0, x, (splF (⟨#[47]⟩ ++ y)).2) else ((splF (⟨#[47]⟩ ++ y)).1, u0)) := by show _ = _; rw [HA.out, if_pos ⟨rfl, rfl⟩, HT.out]
          unfold SplitAt at kss
          clear ks HSP HA HT T1
          generalize (splF (⟨#[47]⟩ ++ y)).1 = n at *
          generalize (splF (⟨#[47]⟩ ++ y)).2 = v at *
          obtain ⟨p, l⟩ := v
          dsimp only at kss
          go_wp2_with (go_at_call 29; refine (kh _).mono ?_; rintro e w2 ⟨rfl, hw2⟩; rw [hw2]; clear hw2 w2)
          refine (kss _).mono ?_
          rintro e w3 ⟨q, rfl, ho3, hb3⟩
          obtain ⟨A3, cp3, rfl⟩ := slice_ofF ho3
          have HO3 : Hid (OwnF w3 w1.heap.size (.slice A3 l.length cp3) l) := ho3
          have HB3 : Hid (Below w.heap.size w w3) := HB1.out.trans (hb3.mono HB1.out.size)
          obtain ⟨t0, t1, t2, g0, g1, g2, tl⟩ := HT1.out.below hb3
          have hl1 := HT1.out.lt
          clear hb3 ho3 kss
          by_cases hn : n = 0
          · subst hn
            have HF : Hid (prsF s = (0, x, p, l)) := by show _ = _; rw [HA2.out, if_pos rfl]
            clear HA2
            go_wp2_with fail
            refine bodyPost_ret (v := .tuple #[.agg #[.string x, .string p, .slice A3 l.length cp3], .int .i64 0]) (by simp [results, Tryz.results8, go_sem, t0, t1, t2]) rfl (ParseAt.mk HF.out ?_ ?_)
            · exact OwnF.lower (OwnF.only HO3.out (tb := w.heap.size) ((((Only.refl w.heap.size w3).setCell (p := ⟨w.heap.size, 0, none⟩) (.inl rfl) _).setCell (p := ⟨w.heap.size, 1, none⟩) (.inl rfl) _).setCell (p := ⟨w.heap.size, 2, none⟩) (.inl rfl) _) (by omega)) (by omega)
            · exact ((HB3.out.setCell (p := ⟨w.heap.size, 0, none⟩) (Nat.le_refl _) _).setCell (p := ⟨w.heap.size, 1, none⟩) (Nat.le_refl _) _).setCell (p := ⟨w.heap.size, 2, none⟩) (Nat.le_refl _) _
          · have HF : Hid (prsF s = (n, ⟨#[]⟩, ⟨#[]⟩, [])) := by show _ = _; rw [HA2.out, if_neg hn]; rfl
            clear HA2
            go_wp2_with fail
            refine bodyPost_ret (v := .tuple #[.agg #[.string ⟨#[]⟩, .string ⟨#[]⟩, .slice none 0 0], .int .i64 n]) (by simp [results, Tryz.results8, go_sem, t0, t1, t2]) rfl (ParseAt.mk HF.out (OwnF.nil _ _) ?_)
            exact ((HB3.out.setCell (p := ⟨w.heap.size, 0, none⟩) (Nat.le_refl _) _).setCell (p := ⟨w.heap.size, 1, none⟩) (Nat.le_refl _) _).setCell (p := ⟨w.heap.size, 2, none⟩) (Nat.le_refl _) _
        · have HF : Hid (prsF s = (3, ⟨#[]⟩, ⟨#[]⟩, [])) := by show _ = _; rw [HA.out, if_neg hzh]; rfl
          obtain ⟨t0, t1, t2, g0, g1, g2, tl⟩ := T1
          clear HA ks HSP
          cases z with
          | false =>
            clear hzh kh
            go_wp2_with fail
            refine bodyPost_ret (v := .tuple #[.agg #[.string ⟨#[]⟩, .string ⟨#[]⟩, .slice none 0 0], .int .i64 3]) (by simp [results, Tryz.results8, go_sem, t0, t1, t2]) rfl (ParseAt.mk HF.out (OwnF.nil _ _) ?_)
            exact ((HB1.out.setCell (p := ⟨w.heap.size, 0, none⟩) (Nat.le_refl _) _).setCell (p := ⟨w.heap.size, 1, none⟩) (Nat.le_refl _) _).setCell (p := ⟨w.heap.size, 2, none⟩) (Nat.le_refl _) _
          | true =>
            obtain rfl : bh = false := by cases bh with | false => rfl | true => exact absurd ⟨rfl, rfl⟩ hzh
            clear hzh
            go_wp2_with (go_at_call 29; refine (kh _).mono ?_; rintro e w2 ⟨rfl, hw2⟩; rw [hw2]; clear hw2 w2)
            refine bodyPost_ret (v := .tuple #[.agg #[.string ⟨#[]⟩, .string ⟨#[]⟩, .slice none 0 0], .int .i64 3]) (by simp [results, Tryz.results8, go_sem, t0, t1, t2]) rfl (ParseAt.mk HF.out (OwnF.nil _ _) ?_)
            exact ((HB1.out.setCell (p := ⟨w.heap.size, 0, none⟩) (Nat.le_refl _) _).setCell (p := ⟨w.heap.size, 1, none⟩) (Nat.le_refl _) _).setCell (p := ⟨w.heap.size, 2, none⟩) (Nat.le_refl _) _
    · have h8' : (s.size : Int) < 8 := by omega
      have HS2 : Hid (prsF s = (3, ⟨#[]⟩, ⟨#[]⟩, [])) := by show _ = _; rw [HS.out, if_neg hs1, pre8_no s h8, if_neg (by decide)]; rfl
      clear HS
      go_enter Tryz.func8, Tryz.ntmps8
      go_wp2_with fail
      exact bodyPost_ret (v := .tuple #[.agg #[.string ⟨#[]⟩, .string ⟨#[]⟩, .slice none 0 0], .int .i64 3]) (by simp [results, Tryz.results8, go_sem]) rfl (ParseAt.mk HS2.out (OwnF.nil _ _) (by repeat (first | exact Below.refl _ _ | assumption | refine below_drewN ?_ _ | refine Below.drew ?_ | refine Below.alloc ?_ (by simp <;> omega) _ | refine Below.setCell ?_ (by simp <;> omega) _)))

set_option maxRecDepth 100000 in
set_option maxHeartbeats 1000000 in
theorem rsame11_any (u : Ur) (q v : Value) (w : World) (hl : u.2.2.length ≤ 100000) (hq : RowF w q u.2.2) (hv : RowF w v u.2.2) :
    Calls Tryz.prog 11 #[.agg #[.string u.1, .string u.2.1, q], .agg #[.string u.1, .string u.2.1, v]] w fun e w' => e = .returned (.bool true) ∧ Below w.heap.size w w' := by
  have HQ : Hid (RowF w q u.2.2) := hq
  have HV : Hid (RowF w v u.2.2) := hv
  have ks : ∀ W, Below w.heap.size w W → Calls Tryz.prog 32 #[q, v] W fun e w' => e = .returned (.bool true) ∧ ∃ m, w' = W.drewN m := fun W hw => same_any u.2.2 q v W (by omega) (HQ.out.below hw) (HV.out.below hw)
  obtain ⟨A, cap, rfl, hcp, _⟩ := hq
  obtain ⟨C, cap2, rfl, hcp2, _⟩ := hv
  obtain ⟨h, p, l⟩ := u
  dsimp only at *
  go_enter Tryz.func11, Tryz.ntmps11
  go_wp2_with fail
  have b2 : Below w.heap.size w ((w.alloc (.cells #[.string h, .string p, .slice A l.length cap] 28)).alloc (.cells #[.string h, .string p, .slice C l.length cap2] 28)) := (by repeat (first | exact Below.refl _ _ | assumption | refine below_drewN ?_ _ | refine Below.drew ?_ | refine Below.alloc ?_ (by simp <;> omega) _ | refine Below.setCell ?_ (by simp <;> omega) _))
  refine (ks _ b2).mono ?_
  rintro e w3 ⟨rfl, m, hw3⟩
  have HB : Hid (Below w.heap.size w w3) := by show Below _ _ _; rw [hw3]; exact below_drewN b2 m
  clear hw3
  go_wp2_with fail
  go_ret
  exact ⟨rfl, HB.out⟩

set_option maxHeartbeats 1000000 in
theorem lsame_any (l : List Fd) (q v : Value) (w : World) (hl : l.length ≤ 100000) (hq : RowF w q l) (hv : RowF w v l) :
    Calls Tryz.prog 12 #[q, v] w fun e w' => e = .returned (.bool true) ∧ Below w.heap.size w w' := by
  have ks := same_any l q v w (by omega) hq hv
  obtain ⟨A, cap, rfl, hcp, _⟩ := hq
  obtain ⟨C, cap2, rfl, hcp2, _⟩ := hv
  go_enter Tryz.func12, Tryz.ntmps12
  go_wp2_with fail
  refine ks.mono ?_
  rintro e w3 ⟨rfl, m, hw3⟩
  have HB : Hid (Below w.heap.size w w3) := by show Below _ _ _; rw [hw3]; exact below_drewN (Below.refl _ _) m
  clear hw3
  go_wp2_with fail
  go_ret
  exact ⟨rfl, HB.out⟩

end Go.Proofs.YtfoeeocejcbmlaaGreatDoor
