import Derived.Test.YtgmmbfnmojjbkaaGreatDoorMX
import Derived.Test.YtgmmbfnmojjbkaaGreatDoorWZ
import Derived.Test.YtgmmbfnmojjbkaaGreatDoorTA
import Derived.Test.YtgmmbfnmojjbkaaGreatDoorW32
namespace Go.Proofs.YtgmmbfnmojjbkaaGreatDoor
open Go.RowKit
set_option linter.unusedVariables false
set_option linter.unusedSimpArgs false

/-- A row of texts of one's own. -/
def OwnS (w : World) (B : Nat) (v : Value) (ps : List ByteArray) : Prop := w.ownsRow B 9 1 v ps.length (ps.map Value.string)
theorem Tryz.infoStr : (Tryz.prog.info? 9).map (fun i => (i.zero, i.size, i.bytes)) = some (some (.string ⟨#[]⟩), 1, 16) := by kernel_rfl
theorem OwnS.below {w w' : World} {B : Nat} {v : Value} {ps : List ByteArray} (h : OwnS w B v ps) (hb : Below w.heap.size w w') : OwnS w' B v ps :=
  World.ownsRow.kept h (row := none) ⟨hb.os, hb.tape, hb.output, hb.size, fun k hk _ => hb.block k hk⟩ (Classical.em _)
theorem OwnS.nil (w : World) (B : Nat) : OwnS w B (.slice none 0 0) [] := World.ownsRow_nil _ _ _ _
theorem OwnS.snoc {w : World} {B : Nat} {v : Value} {ps : List ByteArray} {x : ByteArray} (h : w.ownsRow B 9 1 v (ps.length + 1) (ps.map Value.string ++ [.string x])) : OwnS w B v (ps ++ [x]) := by
  unfold OwnS; simpa using h

theorem below_endR {w wr w6 : World} {B : Nat} {o : Obj} {u v6 : Value} {e : TypeId} {sz n : Nat} {xs : List Value} (hb : Below B w wr) (hown : wr.ownsRow B e sz u n xs) (hg : (wr.alloc o).grownBy w6 u.ownBlock) (hat : v6.ownBlock = u.ownBlock ∨ v6.ownBlock = some (wr.heap.size + 1)) (hB : B ≤ wr.heap.size) : Below B w w6 :=
  hb.trans ((Grew.step ((Grew.refl wr u).alloc o) hg (by simpa using hat)).toBelow (fun q hq => (hown.lt q hq).1) hB)

/-- A row of texts that stands. -/
def RowS (w : World) (v : Value) (ps : List ByteArray) : Prop :=
  ∃ A cap, v = .slice A ps.length cap ∧ (ps.length = 0 ∨ ∃ b o, A = some ⟨b, o, none⟩ ∧ b < w.heap.size ∧ ∀ i, i < ps.length → w.cell? ⟨b, o + i, none⟩ = some (.string (ps.getD i ⟨#[]⟩)))

theorem RowS.below {w w' : World} {v : Value} {ps : List ByteArray} (h : RowS w v ps) (hb : Below w.heap.size w w') : RowS w' v ps := by
  obtain ⟨A, cap, rfl, h | ⟨b, o, rfl, hl, hc⟩⟩ := h
  · exact ⟨A, cap, rfl, .inl h⟩
  · exact ⟨_, cap, rfl, .inr ⟨b, o, rfl, Nat.lt_of_lt_of_le hl hb.size, fun i hi => by rw [hb.cell (by simpa using hl)]; exact hc i hi⟩⟩

theorem OwnS.row {w : World} {B : Nat} {v : Value} {ps : List ByteArray} (h : OwnS w B v ps) : RowS w v ps := by
  rcases World.ownsRow.lt h with hlt
  rcases h.2 with ⟨h1, h2⟩ | ⟨g, cap, cur, h3, h4, h5, _⟩
  · exact ⟨none, 0, by rw [h1, h2], .inl h2⟩
  · have h' := h
    unfold OwnS at h'
    rw [h3] at h' hlt
    refine ⟨_, cap, h3, .inr ⟨g, 0, rfl, (hlt g rfl).2, fun i hi => ?_⟩⟩
    rw [Nat.zero_add, World.ownsRow.cellAt h' i (by omega)]
    simp [List.getD, List.getElem?_eq_getElem hi]

def PartsRel (w : World) (s : ByteArray) (ov fv iv : Value) (wr : World) : Prop :=
  ∃ (done : List ByteArray) (fr i : Nat), fv = .int .i64 (fr : Int) ∧ iv = .int .i64 (i : Int) ∧ fr ≤ i ∧ i ≤ s.size ∧ done.length ≤ i ∧
    done.map (·.data.toList) ++ brk tq (s.data.toList.drop i) (s.extract fr i).data.toList = brk tq s.data.toList [] ∧ OwnS wr w.heap.size ov done ∧ Below w.heap.size w wr

theorem toList_eq {s t : ByteArray} (h : s = t) : (s.toList == t.toList) = true := by subst h; simp

theorem list126 : (⟨#[126]⟩ : ByteArray).toList = [126] := by rw [ByteArray.toList_eq]

theorem one_ext (s : ByteArray) (i : Nat) (h : i < s.size) : s.extract i (i + 1) = ⟨#[s[i]'h]⟩ := by
  apply ba_ext
  rw [ext_list, drop_at s i h, show i + 1 - i = 1 by omega]; rfl

set_option maxRecDepth 100000 in
set_option maxHeartbeats 1000000 in
theorem rparts_any (s : ByteArray) (w : World) (hm : s.size ≤ 1000000) :
    Calls Tryz.prog 61 #[.string s, .string ⟨#[126]⟩] w fun e w' =>
      ∃ (ps : List ByteArray) (u : Value), e = .returned u ∧ ps.map (·.data.toList) = brk tq s.data.toList [] ∧ OwnS w' w.heap.size u ps ∧ Below w.heap.size w w' := by
  obtain ⟨i5, hi, hz0, hz1, hz2⟩ := info_has Tryz.infoStr
  go_enter Tryz.func61, Tryz.ntmps61
  go_wp2_with fail
  go_loopw [5, 6, 7] (fun ov fv iv wr => PartsRel w s ov fv iv wr) (fun _ _ iv _ => s.size - (intOf iv).toNat)
  case atStart => exact ⟨[], 0, 0, rfl, rfl, Nat.le_refl _, Nat.zero_le _, Nat.le_refl _, by rw [ext_list]; rfl, OwnS.nil _ _, Below.refl _ _⟩
  case round =>
    obtain ⟨done, fr, i, rfl, rfl, hfi, his, hdl, hbr, hown, hb⟩ := hrel
    have HO : Hid (OwnS wr w.heap.size u5 done) := hown
    have HB : Hid (Below w.heap.size w wr) := hb
    have hsz := hb.size
    have HBR : Hid (done.map (·.data.toList) ++ brk tq (s.data.toList.drop i) (s.extract fr i).data.toList = brk tq s.data.toList []) := hbr
    clear hbr hown hb
    by_cases hp : i < s.size
    · have hp' : (i : Int) + 1 ≤ (s.size : Int) := by omega
      have hfi' : (fr : Int) ≤ (i : Int) := by omega
      have hle1 : (i : Int) ≤ (i : Int) + 1 := by omega
      have hdr := drop_at s i hp
      have hone := one_ext s i hp
      by_cases hc : s[i]'hp = 126
      · have heq : ((s.extract i (i + 1)).toList == (⟨#[126]⟩ : ByteArray).toList) = true := toList_eq (by rw [hone, hc])
        rw [list126] at heq
        have HN : Hid ((done ++ [s.extract fr i]).map (·.data.toList) ++ brk tq (s.data.toList.drop (i + 1)) (s.extract (i + 1) (i + 1)).data.toList = brk tq s.data.toList []) := by
          show _ = _
          rw [← HBR.out, hdr, brk, if_pos (by rw [hc]; rfl), ext_list]
          simp
        clear hdr hone hc
        go_wp2_with (at_builtin; refine wpList_append_any _ rfl _ _ 32 rfl w.heap.size 9 i5 (.string ⟨#[]⟩) 1 16 Tryz.underlying32 hi hz0 hz1 hz2 rfl (by decide) u5 done.length (done.map Value.string) rfl ?own (some ⟨wr.heap.size, 0, none⟩) 1 1 [.string (s.extract fr i)] rfl ?src ?c3 ?c4 ?c5 ?_)
        case own => exact World.ownsRow.alloc HO.out _
        case src => exact .inr ⟨_, rfl, rfl, World.news_of_block (t := 9) (fr := (0, 0)) (heap_alloc_new wr _), by simp [Value.oneCell']⟩
        case c3 => unfold maxLen; omega
        case c4 => omega
        case c5 => first | omega | (simp; omega)
        intro v6 w6 hown6 hgrow6 hat6
        have O6 : Hid (OwnS w6 w.heap.size v6 (done ++ [s.extract fr i])) := OwnS.snoc hown6
        have B6 : Hid (Below w.heap.size w w6) := below_endR HB.out HO.out hgrow6 hat6 hsz
        clear hown6 hgrow6 hat6
        go_wp2_with fail
        go_roundw
        case rel =>
          exact ⟨done ++ [s.extract fr i], i + 1, i + 1, by go_num, by go_num, Nat.le_refl _, by omega, by simp; omega, HN.out, O6.out, B6.out⟩
        case measure => simp [intOf]; omega
      · have heq : ((s.extract i (i + 1)).toList == (⟨#[126]⟩ : ByteArray).toList) = false := toList_ne (by rw [hone]; intro e; injection e with e; exact hc (by simpa using e))
        rw [list126] at heq
        have HN : Hid (done.map (·.data.toList) ++ brk tq (s.data.toList.drop (i + 1)) (s.extract fr (i + 1)).data.toList = brk tq s.data.toList []) := by
          show _ = _
          rw [← HBR.out, hdr, brk, if_neg (by simpa [tq] using hc), ext_snoc s fr i hp hfi]
        clear hdr hone hc
        go_wp2_with fail
        go_roundw
        case rel =>
          exact ⟨done, fr, i + 1, rfl, by go_num, by omega, by omega, by omega, HN.out, HO.out, HB.out⟩
        case measure => simp [intOf]; omega
    · obtain rfl : i = s.size := by omega
      have hp' : ¬ (s.size : Int) + 1 ≤ (s.size : Int) := by omega
      have hfi' : (fr : Int) ≤ (s.size : Int) := by omega
      have HN : Hid ((done ++ [s.extract fr s.size]).map (·.data.toList) = brk tq s.data.toList []) := by
        show _ = _
        rw [← HBR.out, List.drop_of_length_le (by rw [size_list]; omega), brk, List.map_append]; rfl
      skip
      · skip
        go_wp2_with (at_builtin; refine wpList_append_any _ rfl _ _ 32 rfl w.heap.size 9 i5 (.string ⟨#[]⟩) 1 16 Tryz.underlying32 hi hz0 hz1 hz2 rfl (by decide) u5 done.length (done.map Value.string) rfl ?own (some ⟨wr.heap.size, 0, none⟩) 1 1 [.string (s.extract fr s.size)] rfl ?src ?c3 ?c4 ?c5 ?_)
        case own => exact World.ownsRow.alloc HO.out _
        case src => exact .inr ⟨_, rfl, rfl, World.news_of_block (t := 9) (fr := (0, 0)) (heap_alloc_new wr _), by simp [Value.oneCell']⟩
        case c3 => unfold maxLen; omega
        case c4 => omega
        case c5 => first | omega | (simp; omega)
        intro v6 w6 hown6 hgrow6 hat6
        have O6 : Hid (OwnS w6 w.heap.size v6 (done ++ [s.extract fr s.size])) := OwnS.snoc hown6
        have B6 : Hid (Below w.heap.size w w6) := below_endR HB.out HO.out hgrow6 hat6 hsz
        clear hown6 hgrow6 hat6
        go_wp2_with fail
        go_ret
        exact ⟨_, _, rfl, HN.out, O6.out, B6.out⟩

end Go.Proofs.YtgmmbfnmojjbkaaGreatDoor

namespace Go.Proofs.YtgmmbfnmojjbkaaGreatDoor
open Go.RowKit
set_option linter.unusedVariables false
set_option linter.unusedSimpArgs false

/-- L is, rising, just the terms that the pieces are. -/
structure FS (L : List Kd) (ps : List (List UInt8)) : Prop where
  rises : L.Pairwise (fun j k => ordK j k < 0)
  sound : ∀ x ∈ L, ∃ p ∈ ps, ∃ a l, inL p = .ok (a, l) ∧ ordT x.a x.l a l = 0
  whole : ∀ p ∈ ps, ∀ a l, inL p = .ok (a, l) → ∃ x ∈ L, ordT x.a x.l a l = 0
  len : L.length ≤ ps.length

theorem FS.nil : FS [] [] := ⟨List.Pairwise.nil, by simp, by simp, Nat.le_refl _⟩
theorem FS.skip {L : List Kd} {ps : List (List UInt8)} {p : List UInt8} {er : Nat} (h : FS L ps) (hp : inL p = .error er) : FS L (ps ++ [p]) := by
  refine ⟨h.rises, fun x hx => ?_, fun q hq a l e => ?_, by have := h.len; simp; omega⟩
  · obtain ⟨q, hq, r⟩ := h.sound x hx; exact ⟨q, by simp [hq], r⟩
  · rcases List.mem_append.1 hq with hq | hq
    · exact h.whole q hq a l e
    · simp at hq; subst hq; rw [hp] at e; cases e
theorem FS.add {L L' : List Kd} {ps : List (List UInt8)} {p : List UInt8} {t : Kd} (h : FS L ps) (hp : inL p = .ok (t.a, t.l)) (ha : AddOf L t L') : FS L' (ps ++ [p]) := by
  obtain ⟨a1, a2, a3, a4, a5⟩ := addOf_sort h.rises ha
  refine ⟨a1, fun x hx => ?_, fun q hq a l e => ?_, by have := h.len; simp; omega⟩
  · rcases a2 x hx with rfl | hx
    · exact ⟨p, by simp, _, _, hp, ordT_self _ _⟩
    · obtain ⟨q, hq, r⟩ := h.sound x hx; exact ⟨q, by simp [hq], r⟩
  · rcases List.mem_append.1 hq with hq | hq
    · obtain ⟨x, hx, r⟩ := h.whole q hq a l e; exact ⟨x, a3 x hx, r⟩
    · simp at hq; subst hq
      rw [hp] at e; injection e with e; injection e with e1 e2; subst e1 e2
      obtain ⟨y, hy, r⟩ := a4
      have r' := neg_ordK t y
      rw [r] at r'
      exact ⟨y, hy, r'⟩

theorem brk_le (q : UInt8 → Bool) (x acc p : List UInt8) (hp : p ∈ brk q x acc) : p.length ≤ x.length + acc.length := by
  have h := brk_sum q x acc
  have : p.length + 1 ≤ ((brk q x acc).map fun p => p.length + 1).sum := by
    generalize brk q x acc = l at *
    clear h
    induction l with
    | nil => cases hp
    | cons a l ih =>
      rcases List.mem_cons.1 hp with rfl | hp
      · simp only [List.map_cons, List.sum_cons]; omega
      · have := ih hp; simp only [List.map_cons, List.sum_cons]; omega
  omega

def MarksRel (w : World) (v0 : Value) (s : ByteArray) (qs : List (List UInt8)) (ov iv : Value) (wr : World) : Prop :=
  ∃ (n : Nat) (L : List Kd), iv = .int .i64 ((n : Int) + 1) ∧ n ≤ (mks s.data.toList).length ∧ SlN wr ov L ∧ FS L (qs ++ (mks s.data.toList).take n) ∧ Below w.heap.size w wr

def MarksEnd (w : World) (s : ByteArray) (qs : List (List UInt8)) (e : Ending) (w' : World) : Prop :=
  ∃ (L : List Kd) (u : Value), e = .returned u ∧ SlN w' u L ∧ FS L (qs ++ mks s.data.toList) ∧ Below w.heap.size w w'

theorem piece_at {s : ByteArray} {ps : List ByteArray} (h : ps.map (·.data.toList) = brk tq s.data.toList []) (n : Nat) (hn : n + 2 < ps.length) :
    (mks s.data.toList).take (n + 1) = (mks s.data.toList).take n ++ [(ps.getD (n + 1) ⟨#[]⟩).data.toList] ∧ (ps.getD (n + 1) ⟨#[]⟩).size ≤ s.size := by
  have hl : (brk tq s.data.toList []).length = ps.length := by rw [← h, List.length_map]
  have e := mid_get (brk tq s.data.toList []) n (by omega)
  have e2 : (brk tq s.data.toList [])[n + 1]? = some (ps.getD (n + 1) ⟨#[]⟩).data.toList := by
    rw [← h, List.getElem?_map, List.getElem?_eq_getElem (by omega)]
    simp [List.getD, List.getElem?_eq_getElem (show n + 1 < ps.length by omega)]
  refine ⟨?_, ?_⟩
  · unfold mks
    rw [List.take_add_one, e, e2]; rfl
  · have := brk_le tq _ _ _ (List.mem_of_getElem? e2)
    rw [size_list, size_list] at this
    simpa using this

set_option maxRecDepth 100000 in
set_option maxHeartbeats 1000000 in
theorem rmarks_any (s : ByteArray) (v : Value) (L0 : List Kd) (qs : List (List UInt8)) (w : World) (hm : s.size ≤ 100000) (hv : SlN w v L0) (hL : FS L0 qs) (hq : qs.length + (mks s.data.toList).length ≤ 100000) :
    Calls Tryz.prog 40 #[.string s, v] w fun e w' => MarksEnd w s qs e w' := by
  go_enter Tryz.func40, Tryz.ntmps40
  go_wp2_with fail
  refine (rparts_any s w (by omega)).mono ?_
  rintro e w1 ⟨ps, u, rfl, hps, hown, hb1⟩
  have hrow := hown.row
  have HV1 : Hid (SlN w1 v L0) := hv.below hb1
  have hml : (mks s.data.toList).length = ps.length - 2 := by unfold mks; rw [mid_len, ← hps, List.length_map]
  obtain ⟨A, cap, rfl, hA⟩ := hrow
  have HROW : Hid (RowS w1 (.slice A ps.length cap) ps) := ⟨A, cap, rfl, hA⟩
  have HPS : Hid (ps.map (·.data.toList) = brk tq s.data.toList []) := hps
  have HL : Hid (FS L0 qs) := hL
  have HB1 : Hid (Below w.heap.size w w1) := hb1
  have hpl : ps.length ≤ 100002 := by omega
  clear hown hps hA hv hL hb1
  go_wp2_with fail
  go_loopw [1, 6] (fun ov iv wr => MarksRel w1 v s qs ov iv wr) (fun _ iv _ => (mks s.data.toList).length + 1 - (intOf iv).toNat)
  case atStart => exact ⟨0, L0, rfl, Nat.zero_le _, HV1.out, by simpa using HL.out, Below.refl _ _⟩
  case round =>
    obtain ⟨n, L, rfl, hn, hsl, hfs, hb⟩ := hrel
    have HSL : Hid (SlN wr u1 L) := hsl
    have HFS : Hid (FS L (qs ++ (mks s.data.toList).take n)) := hfs
    have hLl : L.length ≤ 100000 := by have := hfs.len; rw [List.length_append, List.length_take] at this; omega
    have hsz := hb.size
    have HB : Hid (Below w1.heap.size w1 wr) := hb
    have hw1 : IntKind.i64.wrap ((n : Int) + 1 + 1) = (n : Int) + 1 + 1 := wrap_in _ (by omega) (by omega)
    clear hsl hfs hb
    by_cases hlt : n + 2 < ps.length
    · have hlt' : (n : Int) + 1 + 1 < (ps.length : Int) := by omega
      obtain ⟨hpa, hpsz⟩ := piece_at HPS.out n hlt
      obtain ⟨b, o, rfl, hbl, hcell⟩ : ∃ b o, A = some ⟨b, o, none⟩ ∧ b < w1.heap.size ∧ ∀ i, i < ps.length → w1.cell? ⟨b, o + i, none⟩ = some (.string (ps.getD i ⟨#[]⟩)) := by
        obtain ⟨A', cap', e, h⟩ := HROW.out
        injection e with e1 e2 e3
        subst e1
        rcases h with h | h
        · omega
        · exact h
      have hc := hcell (n + 1) (by omega)
      have hcw : wr.cell? ⟨b, o + (n + 1), none⟩ = some (.string (ps.getD (n + 1) ⟨#[]⟩)) := by rw [HB.out.cell (by simpa using hbl)]; exact hc
      have HPA : Hid ((mks s.data.toList).take (n + 1) = (mks s.data.toList).take n ++ [(ps.getD (n + 1) ⟨#[]⟩).data.toList]) := hpa
      clear hcell hc hpa
      generalize ps.getD (n + 1) ⟨#[]⟩ = x at *
      go_wp2_with fail
      refine (rinner_any x wr (by omega)).mono ?_
      intro e w2 h12
      have HB2 : Hid (Below wr.heap.size wr w2) := h12.below
      have hsz2 := h12.below.size
      obtain ⟨h1, h2⟩ := h12
      cases ht : inL x.data.toList with
      | error er =>
        obtain ⟨rfl, _⟩ := h1 er ht
        have HN : Hid (FS L (qs ++ (mks s.data.toList).take (n + 1))) := by show FS _ _; rw [HPA.out, ← List.append_assoc]; exact HFS.out.skip ht
        clear h1 h2 ht
        go_wp2_with fail
        go_roundw
        case rel =>
          exact ⟨n + 1, L, by go_num, by omega, HSL.out.below (Below.alloc HB2.out hsz2 _), HN.out, HB.out.trans ((Below.alloc HB2.out hsz2 _).mono hsz)⟩
        case measure => simp [intOf]; omega
      | ok z =>
        obtain ⟨a, l⟩ := z
        obtain ⟨v2, rfl, _, hf1, A3, cap3, b3, o3, rfl, hn3, hA3, hl3⟩ := h2 a l ht
        have hmay : may a l = true := by
          unfold inL at ht; split at ht
          · exact (one_may2 ht).2.1
          · cases ht
        have HT : Hid (inL x.data.toList = .ok (a, l)) := ht
        clear h1 h2 ht
        have hadd : ∀ T : TypeId, Calls Tryz.prog 62 #[u1, .agg #[.int .i64 a.kind, .int .i64 a.n, .string a.s, .slice A3 (flen l) cap3]] (w2.alloc (.cells #[.int .i64 a.kind, .int .i64 a.n, .string a.s, .slice A3 (flen l) cap3] T)) fun e w' => ∃ (L' : List Kd) (u : Value), e = .returned u ∧ AddOf L ⟨0, 0, a, l, A3, cap3, b3, o3⟩ L' ∧ SlN w' u L' ∧ Below (w2.alloc (.cells #[.int .i64 a.kind, .int .i64 a.n, .string a.s, .slice A3 (flen l) cap3] T)).heap.size (w2.alloc (.cells #[.int .i64 a.kind, .int .i64 a.n, .string a.s, .slice A3 (flen l) cap3] T)) w' := fun T =>
          add_any (t := ⟨0, 0, a, l, A3, cap3, b3, o3⟩) (HSL.out.below (Below.alloc HB2.out hsz2 _)) hLl ⟨⟨hf1, hn3, hA3, RepG.keep (fun q hq => by simp; omega) (fun q j hq => World.cell?_alloc_past _ _ _ (by have := hq.2; omega)) hl3⟩, may_ar a l hmay⟩
        have HB3 : Hid (∀ T : Obj, Below wr.heap.size wr (w2.alloc T)) := fun T => Below.alloc HB2.out hsz2 _
        clear hA3 hl3 hf1 hmay
        go_wp2_with fail
        refine (hadd _).mono ?_
        rintro e w4 ⟨L', u4, rfl, hao, hsl4, hb4⟩
        have HN : Hid (FS L' (qs ++ (mks s.data.toList).take (n + 1))) := by show FS _ _; rw [HPA.out, ← List.append_assoc]; exact HFS.out.add HT.out hao
        have HS4 : Hid (SlN w4 u4 L') := hsl4
        have HB4 : Hid (Below w1.heap.size w1 w4) := HB.out.trans (((HB3.out _).trans (hb4.mono (by simp; omega))).mono hsz)
        clear hadd hao hsl4 hb4
        go_wp2_with fail
        go_roundw
        case rel => exact ⟨n + 1, L', by go_num, by omega, HS4.out, HN.out, HB4.out⟩
        case measure => simp [intOf]; omega
    · have hlt' : ¬ (n : Int) + 1 + 1 < (ps.length : Int) := by omega
      have HE : Hid (FS L (qs ++ mks s.data.toList)) := by
        show FS _ _
        have := HFS.out
        rwa [List.take_of_length_le (by omega)] at this
      go_wp2_with fail
      go_ret
      exact ⟨L, _, rfl, HSL.out, HE.out, HB1.out.trans (HB.out.mono HB1.out.size)⟩

end Go.Proofs.YtgmmbfnmojjbkaaGreatDoor

namespace Go.Proofs.YtgmmbfnmojjbkaaGreatDoor
open Go.RowKit
set_option linter.unusedVariables false
set_option linter.unusedSimpArgs false

/-- The pieces of what runs are read as. -/
def pcs (rs : List (List UInt8)) : List (List UInt8) := (rs.filter fun r => dOk r).flatMap fun r => mks (gL r)
def insOk (s : ByteArray) : Bool := dOk s.data.toList

theorem pcs_ok {rs : List (List UInt8)} {r : List UInt8} (h : dOk r = true) : pcs (rs ++ [r]) = pcs rs ++ mks (gL r) := by simp [pcs, h]
theorem pcs_no {rs : List (List UInt8)} {r : List UInt8} (h : dOk r = false) : pcs (rs ++ [r]) = pcs rs := by simp [pcs, h]
theorem pcs_app (rs qs : List (List UInt8)) : pcs (rs ++ qs) = pcs rs ++ pcs qs := by simp [pcs]
theorem pcs_len : ∀ rs : List (List UInt8), (pcs rs).length ≤ (rs.map fun p => p.length + 1).sum
  | [] => by simp [pcs]
  | r :: rs => by
    have ih := pcs_len rs
    have h1 := mks_len (gL r)
    rw [g_len] at h1
    have : pcs (r :: rs) = (if dOk r = true then mks (gL r) else []) ++ pcs rs := by
      unfold pcs; rw [List.filter_cons]; split <;> simp
    rw [this, List.length_append, List.map_cons, List.sum_cons]
    split
    · omega
    · simp; omega

/-- How far the runs have come. -/
def RunsAt (s : ByteArray) (done : List (List UInt8)) (i : Nat) : Prop :=
  (i ≤ s.size ∧ done ++ brk nq (s.data.toList.drop i) [] = brk nq s.data.toList []) ∨ (i = s.size + 1 ∧ done = brk nq s.data.toList [])

theorem RunsAt.len {s : ByteArray} {done : List (List UInt8)} {i : Nat} (h : RunsAt s done i) : (pcs done).length ≤ s.size + 1 := by
  have h1 := pcs_len done
  have h2 := brk_sum nq s.data.toList []
  rw [size_list] at h2
  have : (done.map fun p => p.length + 1).sum ≤ ((brk nq s.data.toList []).map fun p => p.length + 1).sum := by
    rcases h with ⟨_, h⟩ | ⟨_, h⟩
    · rw [← h, List.map_append, List.sum_append]; omega
    · rw [h]; exact Nat.le_refl _
  simp at h2
  omega

theorem RunsAt.stop {s : ByteArray} {done : List (List UInt8)} {i : Nat} (h : RunsAt s done i) (hi : s.size ≤ i) : pcs done = pcs (brk nq s.data.toList []) := by
  rcases h with ⟨h1, h⟩ | ⟨_, h⟩
  · rw [← h, List.drop_of_length_le (by rw [size_list]; omega), brk, pcs_app]
    have : pcs [[]] = [] := by decide +kernel
    rw [this, List.append_nil]
  · rw [h]

def FindRel (w : World) (s : ByteArray) (ov iv : Value) (wr : World) : Prop :=
  ∃ (done : List (List UInt8)) (i : Nat) (L : List Kd), iv = .int .i64 (i : Int) ∧ SlN wr ov L ∧ FS L (mks s.data.toList ++ pcs done) ∧ Below w.heap.size w wr ∧ RunsAt s done i

def FindEnd (w : World) (s : ByteArray) (e : Ending) (w' : World) : Prop :=
  ∃ (L : List Kd) (u : Value), e = .returned u ∧ SlN w' u L ∧ FS L (mks s.data.toList ++ pcs (brk nq s.data.toList [])) ∧ Below w.heap.size w w'

set_option maxRecDepth 100000 in
set_option maxHeartbeats 2000000 in
theorem rfind_any (s : ByteArray) (w : World) (hm : s.size ≤ 30000) :
    Calls Tryz.prog 22 #[.string s] w fun e w' => FindEnd w s e w' := by
  have hml := mks_len s.data.toList
  rw [size_list] at hml
  have hm0 := fun W => rmarks_any s (.slice none 0 0) [] [] W (by omega) (.inl ⟨rfl, rfl⟩) FS.nil (by simp; omega)
  go_enter Tryz.func22, Tryz.ntmps22
  go_wp2_with fail
  refine (hm0 _).mono ?_
  rintro e w1 ⟨L1, u1, rfl, hsl1, hfs1, hb1⟩
  have HS1 : Hid (SlN w1 u1 L1) := hsl1
  have HF1 : Hid (FS L1 (mks s.data.toList ++ pcs [])) := by
    show FS _ _
    have : pcs [] = [] := rfl
    rw [this, List.append_nil]; simpa using hfs1
  have HB1 : Hid (Below w.heap.size w w1) := hb1
  clear hm0 hsl1 hfs1 hb1
  go_wp2_with fail
  go_loopw [3, 4] (fun ov iv wr => FindRel w s ov iv wr) (fun _ iv _ => s.size + 1 - (intOf iv).toNat)
  case atStart => exact ⟨[], 0, L1, rfl, HS1.out, HF1.out, HB1.out, .inl ⟨Nat.zero_le _, rfl⟩⟩
  case round =>
    obtain ⟨done, i, L, rfl, hsl, hfs, hb, hra⟩ := hrel
    have HSL : Hid (SlN wr u3 L) := hsl
    have HFS : Hid (FS L (mks s.data.toList ++ pcs done)) := hfs
    have hsz := hb.size
    have HB : Hid (Below w.heap.size w wr) := hb
    have hql : (mks s.data.toList ++ pcs done).length ≤ 60001 := by have := hra.len; rw [List.length_append]; omega
    have HQL : Hid ((mks s.data.toList ++ pcs done).length ≤ 60001) := hql
    clear hql
    by_cases hp : i < s.size
    · have hp' : (i : Int) < (s.size : Int) := by omega
      have HBR : Hid (done ++ brk nq (s.data.toList.drop i) [] = brk nq s.data.toList []) := by
        rcases hra with ⟨_, h⟩ | ⟨h, _⟩
        · exact h
        · omega
      clear hsl hfs hb hra
      go_wp2_with fail
      go_loopw [5] (fun kv wq => ∃ k : Nat, kv = .int .i64 (k : Int) ∧ i ≤ k ∧ k ≤ s.size ∧ brk nq (s.data.toList.drop i) [] = brk nq (s.data.toList.drop k) (s.extract i k).data.toList ∧ wq = wr) (fun kv _ => s.size - (intOf kv).toNat)
      case atStart => exact ⟨i, rfl, Nat.le_refl _, by omega, by rw [ext_list]; simp, rfl⟩
      case round =>
        obtain ⟨k, rfl, hik, hks, hbk, rfl⟩ := hrel
        have HBK : Hid (brk nq (s.data.toList.drop i) [] = brk nq (s.data.toList.drop k) (s.extract i k).data.toList) := hbk
        clear hbk
        by_cases hk : k < s.size
        · have hk' : (k : Int) < (s.size : Int) := by omega
          have hdr := drop_at s k hk
          have hsn := ext_snoc s i k hk hik
          have hsg := fun W => rbsign_any (s[k]'hk) W
          by_cases hg : 0 ≤ sgI (s[k]'hk)
          · have HN : Hid (brk nq (s.data.toList.drop i) [] = brk nq (s.data.toList.drop (k + 1)) (s.extract i (k + 1)).data.toList) := by
              show _ = _
              rw [HBK.out, hdr, brk, if_neg (by simp [nq]; omega), hsn]
            generalize sgI (s[k]'hk) = sc at *
            clear hdr hsn
            go_wp2_with (go_at_call 41; refine (hsg _).mono ?_; rintro e w1 ⟨rfl, hw1⟩; rw [hw1]; clear hw1 w1)
            go_roundw
            case rel => exact ⟨k + 1, by go_num, by omega, by omega, HN.out, trivial⟩
            case measure => simp [intOf]; omega
          · have HN : Hid (RunsAt s (done ++ [(s.extract i k).data.toList]) (k + 1)) := by
              refine .inl ⟨by omega, ?_⟩
              rw [← HBR.out, HBK.out, hdr, brk, if_pos (by simp [nq]; omega)]; simp
            generalize sgI (s[k]'hk) = sc at *
            clear hdr hsn
            skip
            · skip
              have hrl : (s.extract i k).size ≤ s.size := by rw [← size_list, ext_list, List.length_take, List.length_drop, size_list]; omega
              have hik' : (i : Int) ≤ (k : Int) := by omega
              have hks' : (k : Int) ≤ (s.size : Int) := by omega
              have hdec := fun W => rbdec_any (s.extract i k) W (by omega)
              have hgl : (gL (s.extract i k).data.toList).length ≤ s.size := by rw [g_len, size_list]; omega
              have HI : Hid (insOk (s.extract i k) = dOk (s.extract i k).data.toList) := rfl
              obtain ⟨x, hx⟩ : ∃ x, x = s.extract i k := ⟨_, rfl⟩
              rw [← hx] at hdec hgl HN
              have hxx : s.extract i k = x := hx.symm
              clear hx HI hrl
              go_wp2_with (go_at_call 41; refine (hsg _).mono ?_; rintro e w1 ⟨rfl, hw1⟩; rw [hw1]; clear hw1 w1)
              refine (hdec _).mono ?_
              rintro e w2 ⟨A, cap, rfl, hy, hl, hc, ho2⟩
              have HB2 : Hid (Below wr.heap.size wr w2) := ho2
              have hsz2 := ho2.size
              clear ho2 hdec
              by_cases hd : dOk x.data.toList = true
              · have e1 : dL x = gL x.data.toList := by unfold dL; rw [if_pos hd]
                have e2 : dN x = 0 := by unfold dN; rw [if_pos hd]
                rw [e1] at hl hy ⊢
                rw [e2]
                have hcv := conv_bytes w2 w2.heap.size A (gL x.data.toList) cap hy
                have hmk : (mks (gL x.data.toList)).length ≤ s.size := Nat.le_trans (mks_len _) hgl
                have hrm := rmarks_any ⟨(gL x.data.toList).toArray⟩ u3 L (mks s.data.toList ++ pcs done) w2 (by rw [← size_list, ba_list]; omega) (HSL.out.below HB2.out) HFS.out (by have := HQL.out; rw [ba_list (gL x.data.toList)]; omega)
                rw [show MarksEnd w2 ⟨(gL x.data.toList).toArray⟩ (mks s.data.toList ++ pcs done) = fun e w' => MarksEnd w2 ⟨(gL x.data.toList).toArray⟩ (mks s.data.toList ++ pcs done) e w' from rfl] at hrm
                have HP : Hid (mks s.data.toList ++ pcs done ++ mks (gL x.data.toList) = mks s.data.toList ++ pcs (done ++ [x.data.toList])) := by show _ = _; rw [pcs_ok hd, List.append_assoc]
                have HR : Hid (∀ e w', MarksEnd w2 ⟨(gL x.data.toList).toArray⟩ (mks s.data.toList ++ pcs done) e w' → ∃ (L : List Kd) (u : Value), e = .returned u ∧ SlN w' u L ∧ FS L (mks s.data.toList ++ pcs (done ++ [x.data.toList])) ∧ Below w2.heap.size w2 w') := fun e w' ⟨L, u, h1, h2, h3, h4⟩ => ⟨L, u, h1, h2, by rw [ba_list (gL x.data.toList)] at h3; rw [← HP.out]; exact h3, h4⟩
                generalize hzs : (⟨(gL x.data.toList).toArray⟩ : ByteArray) = zs at hcv hrm HR
                generalize gL x.data.toList = xs at *
                clear e1 e2 hd hmk HP
                go_wp2_with fail
                refine hrm.mono ?_
                intro e w3 h3
                obtain ⟨L', u4, rfl, hsl4, hfs4, hb4⟩ := HR.out e w3 h3
                have HS4 : Hid (SlN w3 u4 L') := hsl4
                have HF4 : Hid (FS L' (mks s.data.toList ++ pcs (done ++ [x.data.toList]))) := hfs4
                have HB4 : Hid (Below w.heap.size w w3) := HB.out.trans ((HB2.out.trans (hb4.mono hsz2)).mono hsz)
                clear hrm h3 hsl4 hfs4 hb4 hcv HR
                go_wp2_with fail
                go_roundw
                case rel => exact ⟨done ++ [x.data.toList], k + 1, L', by go_num, HS4.out, HF4.out, HB4.out, HN.out⟩
                case measure => simp [intOf]; omega
              · have e2 : dN x = 3 := by unfold dN; rw [if_neg hd]
                have HP : Hid (pcs (done ++ [x.data.toList]) = pcs done) := pcs_no (by simpa using hd)
                rw [e2]
                clear hd hy hl hc
                go_wp2_with fail
                go_roundw
                case rel => exact ⟨done ++ [x.data.toList], k + 1, L, by go_num, HSL.out.below HB2.out, by rw [HP.out]; exact HFS.out, HB.out.trans (HB2.out.mono hsz), HN.out⟩
                case measure => simp [intOf]; omega
        · obtain rfl : k = s.size := by omega
          have hk' : ¬ (s.size : Int) < (s.size : Int) := by omega
          have hsg : True := trivial
          have HN : Hid (RunsAt s (done ++ [(s.extract i s.size).data.toList]) (s.size + 1)) := by
            refine .inr ⟨rfl, ?_⟩
            rw [← HBR.out, HBK.out, List.drop_of_length_le (by rw [size_list]; omega), brk]
          obtain ⟨k, hkk⟩ : ∃ k, k = s.size := ⟨_, rfl⟩
          skip
          · skip
            · skip
              have hrl : (s.extract i s.size).size ≤ s.size := by rw [← size_list, ext_list, List.length_take, List.length_drop, size_list]; omega
              have hik' : (i : Int) ≤ (s.size : Int) := by omega
              have hks' : (s.size : Int) ≤ (s.size : Int) := by omega
              have hdec := fun W => rbdec_any (s.extract i s.size) W (by omega)
              have hgl : (gL (s.extract i s.size).data.toList).length ≤ s.size := by rw [g_len, size_list]; omega
              have HI : Hid (insOk (s.extract i s.size) = dOk (s.extract i s.size).data.toList) := rfl
              obtain ⟨x, hx⟩ : ∃ x, x = s.extract i s.size := ⟨_, rfl⟩
              rw [← hx] at hdec hgl HN
              have hxx : s.extract i s.size = x := hx.symm
              clear hx HI hrl
              go_wp2_with fail
              refine (hdec _).mono ?_
              rintro e w2 ⟨A, cap, rfl, hy, hl, hc, ho2⟩
              have HB2 : Hid (Below wr.heap.size wr w2) := ho2
              have hsz2 := ho2.size
              clear ho2 hdec
              by_cases hd : dOk x.data.toList = true
              · have e1 : dL x = gL x.data.toList := by unfold dL; rw [if_pos hd]
                have e2 : dN x = 0 := by unfold dN; rw [if_pos hd]
                rw [e1] at hl hy ⊢
                rw [e2]
                have hcv := conv_bytes w2 w2.heap.size A (gL x.data.toList) cap hy
                have hmk : (mks (gL x.data.toList)).length ≤ s.size := Nat.le_trans (mks_len _) hgl
                have hrm := rmarks_any ⟨(gL x.data.toList).toArray⟩ u3 L (mks s.data.toList ++ pcs done) w2 (by rw [← size_list, ba_list]; omega) (HSL.out.below HB2.out) HFS.out (by have := HQL.out; rw [ba_list (gL x.data.toList)]; omega)
                rw [show MarksEnd w2 ⟨(gL x.data.toList).toArray⟩ (mks s.data.toList ++ pcs done) = fun e w' => MarksEnd w2 ⟨(gL x.data.toList).toArray⟩ (mks s.data.toList ++ pcs done) e w' from rfl] at hrm
                have HP : Hid (mks s.data.toList ++ pcs done ++ mks (gL x.data.toList) = mks s.data.toList ++ pcs (done ++ [x.data.toList])) := by show _ = _; rw [pcs_ok hd, List.append_assoc]
                have HR : Hid (∀ e w', MarksEnd w2 ⟨(gL x.data.toList).toArray⟩ (mks s.data.toList ++ pcs done) e w' → ∃ (L : List Kd) (u : Value), e = .returned u ∧ SlN w' u L ∧ FS L (mks s.data.toList ++ pcs (done ++ [x.data.toList])) ∧ Below w2.heap.size w2 w') := fun e w' ⟨L, u, h1, h2, h3, h4⟩ => ⟨L, u, h1, h2, by rw [ba_list (gL x.data.toList)] at h3; rw [← HP.out]; exact h3, h4⟩
                generalize hzs : (⟨(gL x.data.toList).toArray⟩ : ByteArray) = zs at hcv hrm HR
                generalize gL x.data.toList = xs at *
                clear e1 e2 hd hmk HP
                go_wp2_with fail
                refine hrm.mono ?_
                intro e w3 h3
                obtain ⟨L', u4, rfl, hsl4, hfs4, hb4⟩ := HR.out e w3 h3
                have HS4 : Hid (SlN w3 u4 L') := hsl4
                have HF4 : Hid (FS L' (mks s.data.toList ++ pcs (done ++ [x.data.toList]))) := hfs4
                have HB4 : Hid (Below w.heap.size w w3) := HB.out.trans ((HB2.out.trans (hb4.mono hsz2)).mono hsz)
                clear hrm h3 hsl4 hfs4 hb4 hcv HR
                go_wp2_with fail
                go_roundw
                case rel => exact ⟨done ++ [x.data.toList], s.size + 1, L', by go_num, HS4.out, HF4.out, HB4.out, HN.out⟩
                case measure => simp [intOf]; omega
              · have e2 : dN x = 3 := by unfold dN; rw [if_neg hd]
                have HP : Hid (pcs (done ++ [x.data.toList]) = pcs done) := pcs_no (by simpa using hd)
                rw [e2]
                clear hd hy hl hc
                go_wp2_with fail
                go_roundw
                case rel => exact ⟨done ++ [x.data.toList], s.size + 1, L, by go_num, HSL.out.below HB2.out, by rw [HP.out]; exact HFS.out, HB.out.trans (HB2.out.mono hsz), HN.out⟩
                case measure => simp [intOf]; omega
    · have hp' : ¬ (i : Int) < (s.size : Int) := by omega
      have HE : Hid (FS L (mks s.data.toList ++ pcs (brk nq s.data.toList []))) := by
        show FS _ _
        rw [← hra.stop (by omega)]; exact HFS.out
      clear hsl hfs hb hra
      go_wp2_with fail
      go_ret
      exact ⟨L, _, rfl, HSL.out, HE.out, HB.out⟩

end Go.Proofs.YtgmmbfnmojjbkaaGreatDoor
