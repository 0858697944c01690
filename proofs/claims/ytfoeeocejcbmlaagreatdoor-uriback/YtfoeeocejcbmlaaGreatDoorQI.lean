import Derived.Test.YtfoeeocejcbmlaaGreatDoorQH
namespace Go.Proofs.YtfoeeocejcbmlaaGreatDoor
open Go.RowKit
set_option linter.unusedVariables false
set_option linter.unusedSimpArgs false

theorem brk_count (c : UInt8) : ∀ (s acc : List UInt8), (brk (fun d => d == c) s acc).length = Lib.countByte s c + 1
  | [], acc => by simp [brk, Lib.countByte]
  | d :: s, acc => by
    rw [brk]
    have e : Lib.countByte (d :: s) c = Lib.countByte s c + if (d == c) = true then 1 else 0 := by
      unfold Lib.countByte; rw [List.count_cons]
    rw [e]
    split
    · rw [List.length_cons, brk_count c s]
    · rw [brk_count c s]

/-- One part of what is left. -/
theorem fold_step (rest : ByteArray) (acc : List Fd) : foldF (brk (fun d => d == 38) rest.data.toList []) acc =
    match fdO (cutX 38 rest).data.toList with
    | none => (3, [])
    | some f => if hasF acc f.1 = true then (6, []) else if cutZ 38 rest = true then foldF (brk (fun d => d == 38) (cutY 38 rest).data.toList []) (acc ++ [f]) else (0, acc ++ [f]) := by
  rw [brk_cut]
  cases h : cutL 38 rest.data.toList with
  | none =>
    obtain ⟨e1, e2, e3⟩ := cut_miss h
    rw [e1, e3]; rfl
  | some x =>
    obtain ⟨a, b⟩ := x
    obtain ⟨e1, e2, e3⟩ := cut_hit h
    rw [e1, e2, e3]; rfl

def strOf : Value → ByteArray
  | .string s => s
  | _ => ⟨#[]⟩
def moreN : Value → Nat
  | .bool true => 1
  | _ => 0

/-- What Parse answers. -/
def ParseEnd (w : World) (s : ByteArray) (e : Ending) (w' : World) : Prop :=
  ∃ v, e = .returned (.tuple #[v, .int .i64 (parF s).1]) ∧ OwnF w' w.heap.size v (parF s).2 ∧ Below w.heap.size w w'

def ParseRel (w : World) (s : ByteArray) (sv lv fv mv : Value) (wr : World) : Prop :=
  ∃ (rest : ByteArray) (acc : List Fd) (more : Bool), sv = .string rest ∧ fv = .int .i64 0 ∧ mv = .bool more ∧ OwnF wr w.heap.size lv acc ∧ Below w.heap.size w wr ∧ rest.size ≤ s.size ∧ acc.length + (if more = true then 1 else 0) + Lib.countByte rest.data.toList 38 ≤ 25 ∧
    (if more = true then foldF (brk (fun d => d == 38) rest.data.toList []) acc else (0, acc)) = parF s

set_option maxRecDepth 100000 in
set_option maxHeartbeats 4000000 in
theorem qparse_any (s : ByteArray) (hs : s.size ≤ 100000) (w : World) (ht : Tab16 w.heap.size w) :
    Calls Tryz.prog 46 #[.string s] w fun e w' => ParseEnd w s e w' := by
  obtain ⟨i5, hi, hz0, hz1, hz2⟩ := info_has Tryz.infoFd
  have hcnt := fun W => Tryz.strings_Count_one s 38 W
  have hbc := brk_count 38 s.data.toList []
  generalize Lib.countByte s.data.toList 38 = cn at *
  have HT : Hid (Tab16 w.heap.size w) := ht
  clear ht
  go_enter Tryz.func46, Tryz.ntmps46
  go_wp2_with fail
  go_step3
  by_cases hm : 24 ≤ cn
  · have hm' : (cn : Int) ≥ 24 := by omega
    have HP : Hid (parF s = (7, [])) := by
      show _ = _
      have h0 : ¬ s.size = 0 := by
        intro h0
        have : s.data.toList = [] := List.eq_nil_of_length_eq_zero (by rw [size_list]; exact h0)
        rw [this] at hbc; simp [brk] at hbc; omega
      unfold parF; rw [if_neg h0, if_pos (by omega)]
    clear hbc
    go_wp2_with (go_at_call 63; refine (hcnt _).mono ?_; rintro e w1 ⟨rfl, hw1⟩; rw [hw1]; clear hw1 w1)
    rw [Exit.noGoto_ret]
    exact bodyPost_ret (v := .tuple #[.slice none 0 0, .int .i64 7]) (by simp [results, Tryz.results46, go_sem]) rfl ⟨_, by rw [HP.out], by rw [HP.out]; exact OwnF.nil _ _, Below.refl _ _⟩
  · have hm' : ¬ (cn : Int) ≥ 24 := by omega
    go_wp2_with (go_at_call 63; refine (hcnt _).mono ?_; rintro e w1 ⟨rfl, hw1⟩; rw [hw1]; clear hw1 w1)
    go_step3
    have HP : Hid ((if (!s.toList.isEmpty) = true then foldF (brk (fun d => d == 38) s.data.toList []) [] else (0, [])) = parF s) := by
      show _ = _
      by_cases h0 : s.size = 0
      · rw [empL_of h0]
        unfold parF; rw [if_pos h0]; rfl
      · rw [empL_no h0]
        unfold parF; rw [if_neg h0, if_neg (show ¬ 24 < (brk (fun d => d == 38) s.data.toList []).length by omega)]; rfl
    have HC : Hid (Lib.countByte s.data.toList 38 ≤ 23) := by show _ ≤ _; have := brk_count 38 s.data.toList []; omega
    clear hbc hcnt hm hm'
    go_wp2_with fail
    go_loopw [0, 4, 5, 6] (fun sv lv fv mv wr => ParseRel w s sv lv fv mv wr) (fun sv _ _ mv _ => (strOf sv).size + moreN mv)
    case atStart =>
      exact ⟨s, [], !s.toList.isEmpty, rfl, rfl, rfl, OwnF.nil _ _, Below.refl _ _, Nat.le_refl _, by have := HC.out; simp only [List.length_nil]; split <;> omega, HP.out⟩
    case round =>
      obtain ⟨rest, acc, more, rfl, rfl, rfl, hown, hb, hrs, hal, hfo⟩ := hrel
      obtain ⟨w0, rfl⟩ : ∃ w0, w0 = wr := ⟨_, rfl⟩
      have HO : Hid (OwnF w0 w.heap.size u4 acc) := hown
      have HB : Hid (Below w.heap.size w w0) := hb
      have hsz0 := hb.size
      clear hown hb HP HC
      cases more with
      | false =>
        have HF : Hid ((0, acc) = parF s) := hfo
        clear hfo hal
        go_wp2_with fail
        rw [Exit.noGoto_ret]
        exact bodyPost_ret (v := .tuple #[u4, .int .i64 0]) (by simp [results, Tryz.results46, go_sem]) rfl ⟨_, by rw [← HF.out], by rw [← HF.out]; exact HO.out, HB.out⟩
      | true =>
        have hst := fold_step rest acc
        have hf0 : foldF (brk (fun d => d == 38) rest.data.toList []) acc = parF s := hfo
        rw [hf0] at hst
        obtain ⟨zx, zy, zz⟩ := cut_size 38 rest
        have hcut := fun W => cut_any 38 rest (by omega) W
        have hcb := brk_cut 38 rest.data.toList
        have hbn := brk_count 38 rest.data.toList []
        have hbn2 := brk_count 38 (cutY 38 rest).data.toList []
        have HCN : Hid (acc.length + 1 + (if cutZ 38 rest = true then 1 else 0) + Lib.countByte (cutY 38 rest).data.toList 38 ≤ 25) := by
          show _ ≤ _
          simp only [if_true] at hal
          cases h : cutL 38 rest.data.toList with
          | none =>
            obtain ⟨_, e2, e3⟩ := cut_miss h
            rw [e2, e3]; simp [Lib.countByte]; omega
          | some x =>
            obtain ⟨a, b⟩ := x
            obtain ⟨_, e2, e3⟩ := cut_hit h
            rw [h] at hcb
            have := congrArg List.length hcb
            rw [e2] at hbn2
            rw [e2, e3]
            rw [hbn] at this
            simp only [List.length_cons] at this
            rw [brk_count] at this
            simp only [if_true, ba_list] at *
            omega
        have hfl := fun W hW => qfield_any (cutX 38 rest) (by omega) W hW
        generalize cutX 38 rest = x at *
        generalize cutY 38 rest = y at *
        generalize cutZ 38 rest = z at *
        have HST : Hid (parF s = _) := hst
        have HZZ : Hid (y.size ≤ rest.size ∧ (z = true → y.size < rest.size)) := ⟨zy, zz⟩
        obtain ⟨A, cap, rfl, hcp, _⟩ := HO.out.row
        have hac : acc.length ≤ 25 := by have := HCN.out; omega
        clear hfo hal hst hf0 hcb hbn hbn2 zy zz
        have T1 := Two.new w0 (.string ⟨#[]⟩) (.string ⟨#[]⟩) 72
        have hal : Below w0.heap.size w0 (w0.alloc (.cells #[.string ⟨#[]⟩, .string ⟨#[]⟩] 72)) := Below.alloc (Below.refl _ _) (Nat.le_refl _) _
        go_wp2_with fail
        generalize w0.alloc (.cells #[.string ⟨#[]⟩, .string ⟨#[]⟩] 72) = w1 at *
        refine (hcut w1).mono ?_
        rintro e w2 ⟨rfl, k, h2⟩
        have h12 : Below w1.heap.size w1 w2 := by rw [h2]; exact below_drewN (Below.refl _ _) k
        have T2 := T1.below h12
        have B2 := below_tr hal h12
        have hs2 := B2.size
        clear T1 hal h12 h2 hcut
        have htb : Tab16 w2.heap.size w2 := Lib.tabBelow_of_tabIs ((HT.out.on (HB.out.trans (B2.mono hsz0))).here)
        go_wp2_with fail
        refine (hfl w2 htb).mono ?_
        intro e w3 hend
        obtain ⟨hsm, hno, h23⟩ := hend
        have T3 := T2.below h23
        have B3 := below_tr B2 h23
        have hs3 := B3.size
        clear T2 B2 h23 htb hfl
        cases hfd : fdO x.data.toList with
        | none =>
          obtain rfl := hno hfd
          have HP : Hid (parF s = (3, [])) := by show _ = _; rw [HST.out, hfd]
          have hb4 := (B3.setCell (p := ⟨w0.heap.size, 0, none⟩) (Nat.le_refl _) (.string ⟨#[]⟩)).setCell (p := ⟨w0.heap.size, 1, none⟩) (Nat.le_refl _) (.string ⟨#[]⟩)
          obtain ⟨c0, c1, f0, f1, lt⟩ := T3
          clear hno hsm hfd HST
          go_wp2_with fail
          rw [Exit.noGoto_ret]
          exact bodyPost_ret (v := .tuple #[.slice none 0 0, .int .i64 3]) (by simp [results, Tryz.results46, go_sem]) rfl ⟨_, by rw [HP.out], by rw [HP.out]; exact OwnF.nil _ _, HB.out.trans (hb4.mono hsz0)⟩
        | some f =>
          obtain rfl := hsm f hfd
          have HP : Hid (parF s = if hasF acc f.1 = true then (6, []) else if z = true then foldF (brk (fun d => d == 38) y.data.toList []) (acc ++ [f]) else (0, acc ++ [f])) := by show _ = _; rw [HST.out, hfd]
          obtain ⟨n, v⟩ := f
          simp only at HP
          have T4 := T3.put (.string n) (.string v)
          have B4 := (B3.setCell (p := ⟨w0.heap.size, 0, none⟩) (Nat.le_refl _) (.string n)).setCell (p := ⟨w0.heap.size, 1, none⟩) (Nat.le_refl _) (.string v)
          obtain ⟨c0, c1, f0, f1, lt⟩ := T3
          clear hno hsm hfd HST
          go_wp2_with fail
          generalize (w3.setCell ⟨w0.heap.size, 0, none⟩ (.string n)).setCell ⟨w0.heap.size, 1, none⟩ (.string v) = w4 at *
          clear c0 c1 f0 f1 lt B3 hs3
          have hs4 := B4.size
          have O4 : Hid (OwnF w4 w.heap.size (.slice A acc.length cap) acc) := HO.out.below B4
          have R4 : Hid (RowF w4 (.slice A acc.length cap) acc) := O4.out.row
          have HT4 : Hid (Two w0.heap.size (.string n) (.string v) w4) := T4
          clear T4
          go_loopw [5, 32] (fun fv iv wj => ∃ j : Nat, fv = .int .i64 0 ∧ iv = .int .i64 (j : Int) ∧ j ≤ acc.length ∧ hasF acc n = hasF (acc.drop j) n ∧ Below w4.heap.size w4 wj) (fun _ iv _ => acc.length - (intOf iv).toNat)
          case atStart => exact ⟨0, rfl, rfl, Nat.zero_le _, rfl, Below.refl _ _⟩
          case round =>
            obtain ⟨j, rfl, rfl, hj, hh, hbj⟩ := hrel
            have T5 := HT4.out.below hbj
            have HBJ : Hid (Below w4.heap.size w4 wr) := hbj
            have R5 : Hid (RowF wr (.slice A acc.length cap) acc) := R4.out.below hbj
            have O5 : Hid (OwnF wr w.heap.size (.slice A acc.length cap) acc) := O4.out.below hbj
            have B5 : Hid (Below w.heap.size w wr) := HB.out.trans ((B4.trans (hbj.mono hs4)).mono hsz0)
            have hs5 := hbj.size
            obtain ⟨c0, c1, f0, f1, lt⟩ := T5
            have HH : Hid (hasF acc n = hasF (acc.drop j) n) := hh
            clear hh hbj
            by_cases hp : j < acc.length
            · have hp' : (j : Int) < (acc.length : Int) := by omega
              obtain ⟨b, o, rfl, hbl, hc⟩ := R5.out.hold (by omega)
              obtain ⟨d0, d1⟩ := hc j hp
              have hh2 := HH.out
              rw [drop_fd acc j hp, hasF_cons] at hh2
              clear hc
              generalize acc.getD j fd0 = f2 at *
              obtain ⟨x2, y2⟩ := f2
              simp only at d0 d1 hh2
              by_cases he : x2 = n
              · have heq := toList_eq he
                have HP2 : Hid (parF s = (6, [])) := by show _ = _; rw [HP.out, if_pos (by rw [hh2]; simp [he])]
                have hb9 := HB.out.trans ((B4.trans (HBJ.out.mono hs4)).mono hsz0)
                have hb10 := hb9.alloc (by omega) (.cells #[.string x2, .string y2] 72)
                clear he hh2 HP hb9 B4
                go_wp2_with fail
                rw [Exit.noGoto_ret]
                exact bodyPost_ret (v := .tuple #[.slice none 0 0, .int .i64 6]) (by simp [results, Tryz.results46, go_sem]) rfl ⟨_, by rw [HP2.out], by rw [HP2.out]; exact OwnF.nil _ _, hb10⟩
              · have heq := toList_ne he
                have HN : Hid (hasF acc n = hasF (acc.drop (j + 1)) n) := by show _ = _; rw [hh2]; simp [he]
                have hb10 := HBJ.out.alloc hs5 (.cells #[.string x2, .string y2] 72)
                have HB10 : Hid (Below w4.heap.size w4 (wr.alloc (.cells #[.string x2, .string y2] 72))) := hb10
                clear he hh2 hb10
                go_wp2_with fail
                go_roundw
                case rel => exact ⟨j + 1, rfl, by go_num, by omega, HN.out, HB10.out⟩
                case measure => simp [intOf]; omega
            · have hp' : ¬ (j : Int) < (acc.length : Int) := by omega
              have HF : Hid ((if z = true then foldF (brk (fun d => d == 38) y.data.toList []) (acc ++ [(n, v)]) else (0, acc ++ [(n, v)])) = parF s) := by
                show _ = _
                have hh := HH.out
                rw [List.drop_of_length_le (by omega)] at hh
                have : hasF acc n = false := hh
                rw [HP.out, this]; simp
              clear HP HH
              go_wp2_with (at_builtin; refine wpList_append_any _ rfl _ _ 26 rfl w.heap.size 72 i5 (.agg #[.string ⟨#[]⟩, .string ⟨#[]⟩]) 2 32 Tryz.underlying26 hi hz0 hz1 hz2 rfl (by decide) (.slice A acc.length cap) acc.length (cellsF acc) rfl ?own (some ⟨wr.heap.size, 0, none⟩) 1 1 [.string n, .string v] rfl ?src ?c3 ?c4 ?c5 ?_)
              case own => exact World.ownsRow.alloc O5.out _
              case src => exact .inr ⟨_, rfl, rfl, World.news_of_block (t := 72) (fr := (0, 0)) (heap_alloc_new wr _), by simp [Value.oneCell']⟩
              case c3 => unfold maxLen; omega
              case c4 => omega
              case c5 => first | omega | (simp; omega)
              intro v6 w6 hown6 hgrow6 hat6
              have O6 : Hid (OwnF w6 w.heap.size v6 (acc ++ [(n, v)])) := OwnF.snoc hown6
              have B6 : Hid (Below w.heap.size w w6) := below_endR B5.out O5.out hgrow6 hat6 (by omega)
              clear hown6 hgrow6 hat6
              go_wp2_with fail
              go_roundw
              case rel => exact ⟨y, acc ++ [(n, v)], z, rfl, rfl, rfl, O6.out, B6.out, by have := HZZ.out.1; omega, by have := HCN.out; simp only [List.length_append, List.length_cons, List.length_nil]; omega, HF.out⟩
              case measure =>
                have := HZZ.out
                cases z
                · simp [strOf, moreN]; omega
                · simp [strOf, moreN]; simp at this; omega

end Go.Proofs.YtfoeeocejcbmlaaGreatDoor
