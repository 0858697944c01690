import Derived.Test.YtfoeeocejcbmlaaGreatDoorE3
namespace Go.Proofs.YtfoeeocejcbmlaaGreatDoor
open Go.RowKit
set_option linter.unusedVariables false
set_option linter.unusedSimpArgs false

def strLen : Value → Nat
  | .string s => s.size
  | _ => 0

theorem decA_end (form : Bool) (f : Nat) (l acc : List UInt8) (h : l = []) : decA form f l acc = some acc := by
  subst h; cases f <;> simp [decA]
theorem decA_bad (form : Bool) (f : Nat) (l acc : List UInt8) (h : l ≠ []) (h2 : Lib.hasPrefix l (wrL form (guessL l)) = false) : decA form f l acc = none := by
  cases f <;> simp [decA, h, h2]
theorem decA_next (form : Bool) (f : Nat) (l acc : List UInt8) (h : l ≠ []) (h2 : Lib.hasPrefix l (wrL form (guessL l)) = true) : decA form (f + 1) l acc = decA form f (Lib.trimPrefix l (wrL form (guessL l))) (acc ++ [guessL l]) := by
  simp [decA, h, h2]
theorem trim_len (l : List UInt8) (a : List UInt8) (h : Lib.hasPrefix l a = true) : (Lib.trimPrefix l a).length + a.length = l.length := by
  obtain ⟨t, e1, e2⟩ := has_split h
  rw [e2, e1, List.length_append]; omega
theorem list_nil (s : ByteArray) : s.data.toList = [] ↔ s.size = 0 := by
  rw [← size_list]; exact List.length_eq_zero_iff.symm

theorem ret_dec {x y : ByteArray} {a b : Int} (h : x = y) (k : a = b) : Ending.returned (.tuple #[.string x, .int .i64 a]) = .returned (.tuple #[.string y, .int .i64 b]) := by rw [h, k]

set_option maxRecDepth 100000 in
set_option maxHeartbeats 1000000 in
theorem dec_any (s : ByteArray) (hs : s.size ≤ 1000000) (form : Bool) (B : Nat) (w : World) (ht : Tab16 B w) (hB : B ≤ w.heap.size) :
    Calls Tryz.prog 87 #[.string s, .bool form] w fun e w' => e = .returned (.tuple #[.string (decX form s), .int .i64 (decN form s)]) ∧ Below w.heap.size w w' := by
  obtain ⟨i5, hi, hz0, hz1, hz2⟩ := info_has Tryz.infoByte
  go_enter Tryz.func87, Tryz.ntmps87
  go_wp2_with fail
  go_loopw [0, 6] (fun sv ov wr => ∃ (r : ByteArray) (acc : List UInt8) (fuel : Nat), sv = .string r ∧ OwnB wr w.heap.size ov acc ∧ Below w.heap.size w wr ∧ r.size ≤ fuel ∧ acc.length + r.size ≤ s.size ∧ decA form fuel r.data.toList acc = decO form s) (fun sv _ _ => strLen sv)
  case atStart => exact ⟨s, [], s.size, rfl, OwnB.nil _ _, Below.refl _ _, Nat.le_refl _, by simp, rfl⟩
  case round =>
    obtain ⟨r, acc, fuel, rfl, hown, hb, hf, hl, hacc⟩ := hrel
    have Hacc : Hid (decA form fuel r.data.toList acc = decO form s) := hacc
    clear hacc
    by_cases hp : r.size = 0
    · have hcv := conv_own hown
      have HO : Hid (OwnB wr w.heap.size u6 acc) := hown
      clear hown
      have hn : r.toList = [] := (toList_size r).2 hp
      go_wp2_with fail
      have e : decO form s = some acc := by rw [← Hacc.out, decA_end _ _ _ _ ((list_nil r).2 hp)]
      exact bodyPost_ret (v := .tuple #[.string ⟨acc.toArray⟩, .int .i64 0]) (by simp [results, Tryz.results87, go_sem]) rfl ⟨ret_dec (by simp [decX, e]) (by simp [decN, e]), hb⟩
    · have hn : r.toList.isEmpty = false := by
        cases h : r.toList with
        | nil => exact absurd ((toList_size r).1 h) hp
        | cons a l => rfl
      have hne : r.data.toList ≠ [] := fun h => hp ((list_nil r).1 h)
      have ht1 : Tab16 B wr := ht.on (hb.mono hB)
      have hsz := hb.size
      have hgu := guess_any r (by omega) (by omega) B wr ht1
      have hg : (guessL r.data.toList).toNat < 256 := (guessL r.data.toList).toNat_lt
      have hge : UInt8.ofNat (guessL r.data.toList).toNat = guessL r.data.toList := by simp
      obtain ⟨wb, hwb⟩ : ∃ wb : ByteArray, wb = ⟨(wrL form (guessL r.data.toList)).toArray⟩ := ⟨_, rfl⟩
      have hwr : ∀ W, Below wr.heap.size wr W → Calls Tryz.prog 83 #[.int .u8 ((guessL r.data.toList).toNat : Int), .bool form] W fun e w' => e = .returned (.string wb) ∧ Below W.heap.size W w' := fun W hW => by
        have := written_any _ hg form B W (ht1.on (hW.mono (by omega))) (by have := hW.size; omega)
        unfold WrEnd at this
        rw [hge, ← hwb] at this
        exact this
      have hcp := fun W => Tryz.strings_CutPrefix r wb W
      have hwl : wb.data.toList = wrL form (guessL r.data.toList) := by rw [hwb]
      rw [hwl] at hcp
      obtain ⟨r2, hr2⟩ : ∃ r2 : ByteArray, r2 = ⟨(Lib.trimPrefix r.data.toList (wrL form (guessL r.data.toList))).toArray⟩ := ⟨_, rfl⟩
      rw [← hr2] at hcp
      have Hr2 : Hid (r2.data.toList = Lib.trimPrefix r.data.toList (wrL form (guessL r.data.toList))) := by show _ = _; rw [hr2]
      have Hge : Hid (UInt8.ofNat (guessL r.data.toList).toNat = guessL r.data.toList) := hge
      have HO : Hid (OwnB wr w.heap.size u6 acc) := hown
      have Hne : Hid (r.data.toList ≠ []) := hne
      generalize hb0 : Lib.hasPrefix r.data.toList (wrL form (guessL r.data.toList)) = hasp at *
      have Hhas : Hid (Lib.hasPrefix r.data.toList (wrL form (guessL r.data.toList)) = hasp) := hb0
      generalize hg0 : (guessL r.data.toList).toNat = g at *
      have Hg : Hid ((guessL r.data.toList).toNat = g) := hg0
      clear hwl hr2 hge hwb hb0 hne hg0 hown
      cases hasp
      · go_wp2_with (first | (go_at_call 100; refine hgu.mono ?_; rintro e w1 ⟨rfl, hb1⟩) | (go_at_call 83; refine (hwr _ hb1).mono ?_; rintro e w2 ⟨rfl, hb2⟩) | (go_at_call 41; refine (hcp _).mono ?_; rintro e w3 ⟨rfl, rfl⟩))
        have e : decO form s = none := by rw [← Hacc.out, decA_bad _ _ _ _ Hne.out Hhas.out]
        exact bodyPost_ret (v := .tuple #[.string ⟨#[]⟩, .int .i64 3]) (by simp [results, Tryz.results87, go_sem]) rfl ⟨ret_dec (by simp [decX, e]) (by simp [decN, e]), hb.trans ((below_tr hb1 hb2).mono hsz)⟩
      · go_wp2_with (first | (go_at_call 100; refine hgu.mono ?_; rintro e w1 ⟨rfl, hb1⟩) | (go_at_call 83; refine (hwr _ hb1).mono ?_; rintro e w2 ⟨rfl, hb2⟩) | (go_at_call 41; refine (hcp _).mono ?_; rintro e w3 ⟨rfl, rfl⟩; have hb3 := below_tr hb1 hb2; have HO3 : Hid (OwnB w3 w.heap.size u6 acc) := HO.out.below hb3) | (at_builtin; refine wpList_append_any _ rfl _ _ 82 rfl w.heap.size 5 i5 (.int .u8 0) 1 1 Tryz.underlying82 hi hz0 hz1 hz2 rfl (by decide) u6 acc.length (Lib.byteCells acc) rfl ?own (some ⟨w3.heap.size, 0, none⟩) 1 1 [.int .u8 (g : Int)] rfl ?src ?c3 ?c4 ?c5 ?_))
        case own => exact HO3.out.alloc _
        case src => exact .inr ⟨_, rfl, rfl, World.news_of_block (t := 5) (fr := (0, 0)) (heap_alloc_new w3 _), by simp [Value.oneCell']⟩
        case c3 => unfold maxLen; omega
        case c4 => omega
        case c5 => have := hb3.size; simp; omega
        intro v6 w6 hown6 hgrow6 hat6
        have hs3 := hb3.size
        have hb6 : Below w.heap.size w w6 := by
          have g0 : Grew w3 w6 u6 v6 := Grew.step ((Grew.refl w3 u6).alloc _) hgrow6 (by simpa using hat6)
          exact (hb.trans (hb3.mono hsz)).trans (g0.toBelow (fun q hq => (HO.out.base q hq).1) (by omega))
        have O6 : Hid (OwnB w6 w.heap.size v6 (acc ++ [guessL r.data.toList])) := by
          show OwnB _ _ _ _
          have e1 : [Value.int .u8 (g : Int)] = Lib.byteCells [guessL r.data.toList] := by rw [← Hg.out]; rfl
          rw [e1, byteCells_append] at hown6
          simpa [OwnB] using hown6
        clear hown6 hgrow6 hat6 HO HO3
        have Htl : Hid (r2.size + (wrL form (guessL r.data.toList)).length = r.size) := by
          show _ = _
          have := trim_len _ _ Hhas.out
          rw [← Hr2.out, size_list, size_list] at this; exact this
        have Hwp : Hid (1 ≤ (wrL form (guessL r.data.toList)).length) := wr_pos _ _
        go_wp2_with fail
        go_roundw
        case rel =>
          have h1 := Htl.out
          have h2 := Hwp.out
          obtain ⟨f, rfl⟩ : ∃ f, fuel = f + 1 := ⟨fuel - 1, by omega⟩
          refine ⟨r2, _, f, rfl, O6.out, hb6, by omega, by simp; omega, ?_⟩
          rw [Hr2.out, ← decA_next _ _ _ _ Hne.out Hhas.out]; exact Hacc.out
        case measure =>
          have h1 := Htl.out
          have h2 := Hwp.out
          show r2.size < r.size
          omega

end Go.Proofs.YtfoeeocejcbmlaaGreatDoor
