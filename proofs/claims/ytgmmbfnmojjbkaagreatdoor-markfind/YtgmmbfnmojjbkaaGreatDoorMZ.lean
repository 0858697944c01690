import Derived.Test.YtgmmbfnmojjbkaaGreatDoorMY
import Derived.Test.YtgmmbfnmojjbkaaGreatDoorKM
import Derived.Test.YtgmmbfnmojjbkaaGreatDoorK1
import Derived.Deep.RegionHeld3
namespace Go.Proofs.YtgmmbfnmojjbkaaGreatDoor
open Go.RowKit
set_option linter.unusedVariables false
set_option linter.unusedSimpArgs false

theorem mid_map {α β : Type} (f : α → β) (l : List α) : (mid l).map f = mid (l.map f) := by simp [mid, List.map_dropLast, List.map_drop]

theorem rowS_own {w : World} {g : Nat} {ps : List ByteArray} {n : Nat} (hn : n = ps.length) (T : TypeId) (h : w.heap[g]? = some (.cells (ps.map Value.string).toArray T (0, 0))) : RowS w (.slice (some ⟨g, 0, none⟩) n n) ps := by
  subst hn
  refine ⟨_, _, rfl, .inr ⟨g, 0, rfl, (Array.getElem?_eq_some_iff.1 h).1, fun i hi => ?_⟩⟩
  simp only [World.cell?, h]
  simp [List.getD, List.getElem?_eq_getElem hi]

set_option maxRecDepth 100000 in
set_option maxHeartbeats 1000000 in
/-- What stands between the edges of a text. -/
theorem between_any (s : ByteArray) (w : World) (hm : s.size ≤ 1000000) :
    Calls Tryz.prog 57 #[.string s] w fun e w' =>
      ∃ (ps : List ByteArray) (A : Option Addr) (cap : Nat), e = .returned (.slice A ps.length cap) ∧ ps.map (·.data.toList) = mks s.data.toList ∧
        (ps.length = 0 ∨ ∃ b o, A = some ⟨b, o, none⟩ ∧ w.heap.size ≤ b ∧ b < w'.heap.size ∧ ∀ i, i < ps.length → w'.cell? ⟨b, o + i, none⟩ = some (.string (ps.getD i ⟨#[]⟩))) ∧ Below w.heap.size w w' := by
  go_enter Tryz.func57, Tryz.ntmps57
  go_wp2_with fail
  refine (split_any s w hm).mono ?_
  rintro e w1 ⟨ps, hps, rfl, rfl⟩
  have hcell : ∀ i, i < ps.length → (w.alloc (.cells (ps.map Value.string).toArray 9)).cell? ⟨w.heap.size, i, none⟩ = some (.string (ps.getD i ⟨#[]⟩)) := fun i hi => by
    simp [go_sem, List.getD, List.getElem?_eq_getElem hi]
  have hbw : Below w.heap.size w (w.alloc (.cells (ps.map Value.string).toArray 9)) := Below.alloc (Below.refl _ _) (Nat.le_refl _) _
  have hszw : (w.alloc (.cells (ps.map Value.string).toArray 9)).heap.size = w.heap.size + 1 := by simp
  generalize w.alloc (.cells (ps.map Value.string).toArray 9) = w1 at *
  have hmid : (mid ps).map (·.data.toList) = mks s.data.toList := by rw [mid_map, hps]; rfl
  by_cases h3 : ps.length < 3
  · have h3' : (ps.length : Int) < 3 := by omega
    have h0 : (mid ps).length = 0 := by rw [mid_len]; omega
    have HE : Hid ([].map (fun x : ByteArray => x.data.toList) = mks s.data.toList) := by show _ = _; rw [← hmid, List.eq_nil_of_length_eq_zero h0]
    clear hmid hcell hps h0
    go_wp2_with fail
    go_ret
    exact ⟨[], none, 0, rfl, HE.out, .inl rfl, hbw⟩
  · have h3' : ¬ (ps.length : Int) < 3 := by omega
    have hsl : ps.length - 2 ≤ s.size := by have := mks_len s.data.toList; rw [← hmid, List.length_map, mid_len, size_list] at this; exact this
    obtain ⟨m, hpm⟩ : ∃ m, m + 1 = ps.length := ⟨ps.length - 1, by omega⟩
    have hw : wrap64 ((ps.length : Int) - 1) = (m : Int) := by unfold wrap64; omega
    have h1 : (1 : Int) ≤ (m : Int) := by omega
    have h1' : 1 ≤ m := by omega
    have hle : (m : Int) ≤ (ps.length : Int) := by omega
    have hle' : m ≤ ps.length := by omega
    have hne : ¬ ps.length = 1 := by omega
    have hcap : 1 ≤ ps.length := by omega
    have hl2 : (mid ps).length = ps.length - 2 := mid_len ps
    have HE : Hid ((mid ps).map (fun x : ByteArray => x.data.toList) = mks s.data.toList) := hmid
    have HC : Hid (∀ i, i < (mid ps).length → w1.cell? ⟨w.heap.size, 1 + i, none⟩ = some (.string ((mid ps).getD i ⟨#[]⟩))) := fun i hi => by
      rw [Nat.add_comm, hcell (i + 1) (by omega)]
      rw [List.getD, List.getD, mid_get ps i (by omega)]
    have HPM : Hid ((mid ps).length = m - 1) := by show _ = _; omega
    clear hmid hcell hps hpm hsl hl2
    go_wp2_with fail
    go_ret
    refine ⟨mid ps, some ⟨w.heap.size, 1, none⟩, ps.length - 1, by rw [HPM.out]; rfl, HE.out, .inr ⟨w.heap.size, 1, rfl, Nat.le_refl _, by omega, HC.out⟩, hbw⟩

def InsRel (w w1 : World) (fs : List ByteArray) (ov iv : Value) (wr : World) : Prop :=
  ∃ (n : Nat) (ts : List ByteArray), iv = .int .i64 (n : Int) ∧ n ≤ fs.length ∧ ts.length ≤ n ∧ OwnS wr w1.heap.size ov ts ∧
    ts.map (·.data.toList) = (((fs.take n).map (·.data.toList)).filter fun r => dOk r).map gL ∧ Below w1.heap.size w1 wr

def InsEnd (w : World) (s : ByteArray) (e : Ending) (w' : World) : Prop :=
  ∃ (ts : List ByteArray) (u : Value) (B : Nat), e = .returned u ∧ ts.map (·.data.toList) = insP s.data.toList ∧ w.heap.size ≤ B ∧ B ≤ w'.heap.size ∧ OwnS w' B u ts ∧ Below w.heap.size w w'

theorem full_len (l : List (List UInt8)) : (full l).length ≤ (l.map fun p => p.length + 1).sum := by
  have h1 : (full l).length ≤ l.length := List.length_filter_le _ _
  have h2 : l.length ≤ (l.map fun p => p.length + 1).sum := by
    clear h1
    induction l with
    | nil => simp
    | cons a l ih => simp only [List.map_cons, List.sum_cons, List.length_cons]; omega
  omega

set_option maxRecDepth 100000 in
set_option maxHeartbeats 1000000 in
/-- What the runs of signs are read as. -/
theorem inside_any (s : ByteArray) (w : World) (hm : s.size ≤ 100000) :
    Calls Tryz.prog 39 #[.string s] w fun e w' => InsEnd w s e w' := by
  obtain ⟨i5, hi, hz0, hz1, hz2⟩ := info_has Tryz.infoStr
  go_enter Tryz.func39, Tryz.ntmps39
  go_wp2_with fail
  refine (fields_any s w (by omega)).mono ?_
  rintro e w1 ⟨fs, A, hfs, rfl, hA, hown, hb1⟩
  have hrow : OwnS w1 w.heap.size (.slice (some ⟨A, 0, none⟩) fs.length fs.length) fs := hown
  have hlt := (World.ownsRow.lt hrow A rfl).2
  have hcell : ∀ i, i < fs.length → w1.cell? ⟨A, i, none⟩ = some (.string (fs.getD i ⟨#[]⟩)) := fun i hi => by
    rw [World.ownsRow.cellAt hrow i (by omega)]
    simp [List.getD, List.getElem?_eq_getElem hi]
  have hfl : fs.length ≤ 100001 := by
    have h1 := full_len (brk nq s.data.toList [])
    rw [brk_sum, ← hfs, List.length_map, size_list, List.length_nil] at h1
    omega
  have hsm : ∀ i, i < fs.length → (fs.getD i ⟨#[]⟩).size ≤ 100000 := fun i hi => by
    have hmem : (fs.getD i ⟨#[]⟩).data.toList ∈ full (brk nq s.data.toList []) := by
      rw [← hfs, List.getD, List.getElem?_eq_getElem hi]
      exact List.mem_map.2 ⟨fs[i], List.getElem_mem _, rfl⟩
    have := brk_le nq _ _ _ (List.mem_filter.1 hmem).1
    rw [size_list, size_list, List.length_nil] at this
    omega
  have HC : Hid (∀ i, i < fs.length → w1.cell? ⟨A, i, none⟩ = some (.string (fs.getD i ⟨#[]⟩))) := hcell
  have HSM : Hid (∀ i, i < fs.length → (fs.getD i ⟨#[]⟩).size ≤ 100000) := hsm
  have HFS : Hid (fs.map (·.data.toList) = full (brk nq s.data.toList [])) := hfs
  have HB1 : Hid (Below w.heap.size w w1) := hb1
  have hsz1 := hb1.size
  clear hfs hown hrow hcell hb1 hsm
  go_wp2_with fail
  go_loopw [3, 11] (fun ov iv wr => InsRel w w1 fs ov iv wr) (fun _ iv _ => fs.length - (intOf iv).toNat)
  case atStart => exact ⟨0, [], rfl, Nat.zero_le _, Nat.le_refl _, OwnS.nil _ _, rfl, Below.refl _ _⟩
  case round =>
    obtain ⟨n, ts, rfl, hn, htl, hown, hts, hb⟩ := hrel
    have HO : Hid (OwnS wr w1.heap.size u3 ts) := hown
    have HTS : Hid (ts.map (·.data.toList) = (((fs.take n).map (·.data.toList)).filter fun r => dOk r).map gL) := hts
    have HB : Hid (Below w1.heap.size w1 wr) := hb
    have hsz := hb.size
    by_cases hlt2 : n < fs.length
    · have hlt' : (n : Int) < (fs.length : Int) := by omega
      have hc : wr.cell? ⟨A, n, none⟩ = some (.string (fs.getD n ⟨#[]⟩)) := by rw [hb.cell (by simpa using hlt)]; exact HC.out n hlt2
      have hxs := HSM.out n hlt2
      have htk : fs.take (n + 1) = fs.take n ++ [fs.getD n ⟨#[]⟩] := by rw [List.take_add_one, List.getElem?_eq_getElem hlt2]; simp [List.getD, List.getElem?_eq_getElem hlt2]
      have HTK : Hid (fs.take (n + 1) = fs.take n ++ [fs.getD n ⟨#[]⟩]) := htk
      clear hts hb hown htk
      generalize fs.getD n ⟨#[]⟩ = x at *
      go_wp2_with fail
      refine (bdec_any x wr (by omega)).mono ?_
      rintro e w2 ⟨A2, cap, rfl, hy, hl, hcm, ho2⟩
      have hsz2 := ho2.size
      by_cases hd : dOk x.data.toList = true
      · have e1 : dL x = gL x.data.toList := by unfold dL; rw [if_pos hd]
        have e2 : dN x = 0 := by unfold dN; rw [if_pos hd]
        rw [e1] at hl hy ⊢
        rw [e2]
        have hcv := conv_bytes w2 w2.heap.size A2 (gL x.data.toList) cap hy
        have HN : Hid ((ts ++ [(⟨(gL x.data.toList).toArray⟩ : ByteArray)]).map (·.data.toList) = (((fs.take (n + 1)).map (·.data.toList)).filter fun r => dOk r).map gL) := by
          show _ = _
          rw [HTK.out, List.map_append, HTS.out]
          simp [hd]
        generalize hzs : (⟨(gL x.data.toList).toArray⟩ : ByteArray) = zs at hcv HN
        generalize gL x.data.toList = xs at *
        have HO : Hid (OwnS w2 w1.heap.size u3 ts) := HO.out.below ho2
        have HB : Hid (Below w1.heap.size w1 w2) := HB.out.trans (ho2.mono hsz)
        clear e1 e2 hd hzs ho2 hy
        go_wp2_with (at_builtin; refine wpList_append_any _ rfl _ _ 32 rfl w1.heap.size 9 i5 (.string ⟨#[]⟩) 1 16 Tryz.underlying32 hi hz0 hz1 hz2 rfl (by decide) u3 ts.length (ts.map Value.string) rfl ?own (some ⟨w2.heap.size, 0, none⟩) 1 1 [.string (zs)] rfl ?src ?c3 ?c4 ?c5 ?_)
        case own => exact World.ownsRow.alloc HO.out _
        case src => exact .inr ⟨_, rfl, rfl, World.news_of_block (t := 9) (fr := (0, 0)) (heap_alloc_new w2 _), by simp [Value.oneCell']⟩
        case c3 => unfold maxLen; omega
        case c4 => omega
        case c5 => first | omega | (simp; omega)
        intro v6 w6 hown6 hgrow6 hat6
        have O6 : Hid (OwnS w6 w1.heap.size v6 (ts ++ [zs])) := OwnS.snoc hown6
        have B6 : Hid (Below w1.heap.size w1 w6) := below_endR HB.out HO.out hgrow6 hat6 (by omega)
        clear hown6 hgrow6 hat6
        go_wp2_with fail
        go_roundw
        case rel => exact ⟨n + 1, ts ++ [zs], by go_num, by omega, by simp; omega, O6.out, HN.out, B6.out⟩
        case measure => simp [intOf]; omega
      · have e2 : dN x = 3 := by unfold dN; rw [if_neg hd]
        have HN : Hid (ts.map (·.data.toList) = (((fs.take (n + 1)).map (·.data.toList)).filter fun r => dOk r).map gL) := by
          show _ = _
          rw [HTK.out, HTS.out]; simp [hd]
        have HO2 : Hid (OwnS w2 w1.heap.size u3 ts) := HO.out.below ho2
        have HB2 : Hid (Below w1.heap.size w1 w2) := HB.out.trans (ho2.mono hsz)
        rw [e2]
        clear hd hy hl hcm ho2 e2
        go_wp2_with fail
        go_roundw
        case rel => exact ⟨n + 1, ts, by go_num, by omega, by omega, HO2.out, HN.out, HB2.out⟩
        case measure => simp [intOf]; omega
    · have hlt' : ¬ (n : Int) < (fs.length : Int) := by omega
      have HE : Hid (ts.map (·.data.toList) = insP s.data.toList) := by
        show _ = _
        rw [HTS.out, List.take_of_length_le (by omega), insP_texts s fs HFS.out]
      clear hts hb hown
      go_wp2_with fail
      go_ret
      exact ⟨ts, _, w1.heap.size, rfl, HE.out, hsz1, hsz, HO.out, HB1.out.trans (HB.out.mono hsz1)⟩

end Go.Proofs.YtgmmbfnmojjbkaaGreatDoor

namespace Go.Proofs.YtgmmbfnmojjbkaaGreatDoor
open Go.RowKit
set_option linter.unusedVariables false
set_option linter.unusedSimpArgs false

theorem grown_only {w w' : World} {r : Nat} (h : Only r w w') : w.grownBy w' (some r) := ⟨h.os, h.tape, h.output, h.size, fun k hk hne => h.block k hk (fun e => hne (by rw [e]))⟩

theorem TermsAt.only {w w' : World} {B r : Nat} {v : Value} {ks : List Kd} (h : TermsAt w B v ks) (ho : Only r w w') (hr : r < B) : TermsAt w' B v ks :=
  ⟨World.ownsRow.kept h.1 (row := some r) (grown_only ho) (.inr (fun e => by have := h.1.lt r e; omega)), fun k hk => ⟨(h.2 k hk).1.keep (fun b hb => ⟨hb.1, Nat.lt_of_lt_of_le hb.2.1 ho.size, hb.2.2⟩) (fun b o hb => ho.cell (by simpa using hb.2.1) (by have := hb.1; simp; omega)), (h.2 k hk).2⟩⟩
theorem TermsAt.below {w w' : World} {B : Nat} {v : Value} {ks : List Kd} (h : TermsAt w B v ks) (hb : Below w.heap.size w w') : TermsAt w' B v ks :=
  ⟨World.ownsRow.kept h.1 (row := none) ⟨hb.os, hb.tape, hb.output, hb.size, fun k hk _ => hb.block k hk⟩ (Classical.em _), fun k hk => ⟨(h.2 k hk).1.keep (fun b hb' => ⟨hb'.1, Nat.lt_of_lt_of_le hb'.2.1 hb.size, hb'.2.2⟩) (fun b o hb' => hb.cell (by simpa using hb'.2.1)), (h.2 k hk).2⟩⟩
theorem MapS.below {w w' : World} {r : Nat} {S : List ByteArray} (h : MapS w r S) (hb : Below w.heap.size w w') : MapS w' r S := h.block (hb.block r h.lt)
theorem TermsAt.nil (w : World) (B : Nat) : TermsAt w B (.slice none 0 0) [] := ⟨World.ownsRow_nil _ _ _ _, by simp⟩

/-- What has been found of the pieces qs, S being those that were tried. -/
structure FK (ks : List Kd) (S : List ByteArray) (qs : List (List UInt8)) : Prop where
  sound : ∀ k ∈ ks, ∃ q ∈ qs, inL q = .ok (k.a, k.l)
  whole : ∀ q ∈ qs, ∀ a l, inL q = .ok (a, l) → ∃ k ∈ ks, k.a = a ∧ k.l = l
  seen : ∀ x : ByteArray, x ∈ S ↔ x.data.toList ∈ qs
  len : ks.length ≤ qs.length

theorem FK.nil : FK [] [] [] := ⟨by simp, by simp, by simp, Nat.le_refl _⟩
theorem FK.again {ks : List Kd} {S : List ByteArray} {qs : List (List UInt8)} {x : ByteArray} (h : FK ks S qs) (hx : x ∈ S) : FK ks S (qs ++ [x.data.toList]) := by
  have hq := (h.seen x).1 hx
  refine ⟨fun k hk => ?_, fun q hq' a l e => ?_, fun y => ?_, by have := h.len; simp; omega⟩
  · obtain ⟨q, h1, h2⟩ := h.sound k hk; exact ⟨q, by simp [h1], h2⟩
  · rcases List.mem_append.1 hq' with h1 | h1
    · exact h.whole q h1 a l e
    · simp only [List.mem_singleton] at h1; rw [h1] at e; exact h.whole _ hq a l e
  · rw [h.seen y, List.mem_append, List.mem_singleton]
    constructor
    · exact .inl
    · rintro (h1 | h1)
      · exact h1
      · rw [h1]; exact hq
theorem seen_cons {S : List ByteArray} {qs : List (List UInt8)} {x : ByteArray} (h : ∀ x : ByteArray, x ∈ S ↔ x.data.toList ∈ qs) (y : ByteArray) : y ∈ x :: S ↔ y.data.toList ∈ qs ++ [x.data.toList] := by
  rw [List.mem_cons, List.mem_append, List.mem_singleton, h y]
  constructor
  · rintro (rfl | h1)
    · exact .inr rfl
    · exact .inl h1
  · rintro (h1 | h1)
    · exact .inr h1
    · exact .inl (ba_ext h1)
theorem FK.none {ks : List Kd} {S : List ByteArray} {qs : List (List UInt8)} {x : ByteArray} {er : Nat} (h : FK ks S qs) (hx : inL x.data.toList = .error er) : FK ks (x :: S) (qs ++ [x.data.toList]) := by
  refine ⟨fun k hk => ?_, fun q hq' a l e => ?_, seen_cons h.seen, by have := h.len; simp; omega⟩
  · obtain ⟨q, h1, h2⟩ := h.sound k hk; exact ⟨q, by simp [h1], h2⟩
  · rcases List.mem_append.1 hq' with h1 | h1
    · exact h.whole q h1 a l e
    · simp only [List.mem_singleton] at h1; rw [h1, hx] at e; cases e
theorem FK.some {ks : List Kd} {S : List ByteArray} {qs : List (List UInt8)} {x : ByteArray} {kd : Kd} (h : FK ks S qs) (hx : inL x.data.toList = .ok (kd.a, kd.l)) : FK (ks ++ [kd]) (x :: S) (qs ++ [x.data.toList]) := by
  refine ⟨fun k hk => ?_, fun q hq' a l e => ?_, seen_cons h.seen, by have := h.len; simp; omega⟩
  · rcases List.mem_append.1 hk with h1 | h1
    · obtain ⟨q, h1, h2⟩ := h.sound k h1; exact ⟨q, by simp [h1], h2⟩
    · simp only [List.mem_singleton] at h1; subst h1; exact ⟨_, by simp, hx⟩
  · rcases List.mem_append.1 hq' with h1 | h1
    · obtain ⟨k, h1, h2⟩ := h.whole q h1 a l e; exact ⟨k, by simp [h1], h2⟩
    · simp only [List.mem_singleton] at h1; rw [h1, hx] at e; injection e with e; injection e with e1 e2; exact ⟨kd, by simp, e1, e2⟩

theorem FK.sorted {ks M : List Kd} {S : List ByteArray} {qs : List (List UInt8)} (h : FK ks S qs) (h1 : Rises M) (h2 : SameIn M ks) (h3 : Covers ks M) : FS M qs := by
  refine ⟨h1, fun x hx => ?_, fun q hq a l e => ?_, Nat.le_trans (rises_len ks M h1 h2.covers) h.len⟩
  · obtain ⟨y, hy, e1, e2⟩ := h2 x hx
    obtain ⟨q, hq, e⟩ := h.sound y hy
    exact ⟨q, hq, _, _, e, by rw [e1, e2]; exact ordT_self _ _⟩
  · obtain ⟨k, hk, rfl, rfl⟩ := h.whole q hq a l e
    obtain ⟨y, hy, r⟩ := h3 k hk
    have r' := neg_ordK k y
    rw [r] at r'
    exact ⟨y, hy, r'⟩

theorem below_endR2 {w wr w6 : World} {B B' : Nat} {o : Obj} {u v6 : Value} {e : TypeId} {sz n : Nat} {xs : List Value} (hb : Below B w wr) (hown : wr.ownsRow B' e sz u n xs) (hg : (wr.alloc o).grownBy w6 u.ownBlock) (hat : v6.ownBlock = u.ownBlock ∨ v6.ownBlock = some (wr.heap.size + 1)) (hB : B ≤ wr.heap.size) (hB' : B ≤ B') : Below B w w6 :=
  hb.trans ((Grew.step ((Grew.refl wr u).alloc o) hg (by simpa using hat)).toBelow (fun q hq => by have := (hown.lt q hq).1; omega) hB)

def piecesOf (ts : List ByteArray) : List (List UInt8) := ts.flatMap fun x => mks x.data.toList

theorem piecesOf_take (ts : List ByteArray) (n : Nat) (hn : n < ts.length) : piecesOf (ts.take (n + 1)) = piecesOf (ts.take n) ++ mks (ts.getD n ⟨#[]⟩).data.toList := by
  have e : ts.take (n + 1) = ts.take n ++ [ts.getD n ⟨#[]⟩] := by rw [List.take_add_one, List.getElem?_eq_getElem hn]; simp [List.getD, List.getElem?_eq_getElem hn]
  unfold piecesOf
  rw [e, List.flatMap_append]; simp
theorem piecesOf_le (ts : List ByteArray) (n : Nat) : (piecesOf (ts.take n)).length ≤ (piecesOf ts).length := by
  have : piecesOf ts = piecesOf (ts.take n) ++ piecesOf (ts.drop n) := by
    unfold piecesOf; rw [← List.flatMap_append, List.take_append_drop]
  rw [this, List.length_append]; omega

def FoRel (w : World) (ts : List ByteArray) (lv iv : Value) (wr : World) : Prop :=
  ∃ (n : Nat) (ks : List Kd) (S : List ByteArray), iv = .int .i64 (n : Int) ∧ n ≤ ts.length ∧ MapS wr w.heap.size S ∧ TermsAt wr (w.heap.size + 1) lv ks ∧ FK ks S (piecesOf (ts.take n)) ∧ Below w.heap.size w wr

def FiRel (w : World) (b o : Nat) (ps : List ByteArray) (qs : List (List UInt8)) (lv iv : Value) (wr : World) : Prop :=
  ∃ (m : Nat) (ks : List Kd) (S : List ByteArray), iv = .int .i64 (m : Int) ∧ m ≤ ps.length ∧ MapS wr w.heap.size S ∧ TermsAt wr (w.heap.size + 1) lv ks ∧ FK ks S (qs ++ (ps.take m).map (·.data.toList)) ∧ Below w.heap.size w wr ∧
    (∀ i, i < ps.length → wr.cell? ⟨b, o + i, none⟩ = some (.string (ps.getD i ⟨#[]⟩))) ∧ (0 < ps.length → b < wr.heap.size ∧ w.heap.size < b ∧ lv.ownBlock ≠ some b)

def FoundEnd (w : World) (qs : List (List UInt8)) (e : Ending) (w' : World) : Prop :=
  ∃ (M : List Kd) (u : Value), e = .returned u ∧ SlT w' u M ∧ FS M qs ∧ Below w.heap.size w w'

theorem take_data (ps : List ByteArray) (m : Nat) (hm : m < ps.length) : (ps.take (m + 1)).map (fun x : ByteArray => x.data.toList) = (ps.take m).map (fun x : ByteArray => x.data.toList) ++ [(ps.getD m ⟨#[]⟩).data.toList] := by
  have e : ps.take (m + 1) = ps.take m ++ [ps.getD m ⟨#[]⟩] := by rw [List.take_add_one, List.getElem?_eq_getElem hm]; simp [List.getD, List.getElem?_eq_getElem hm]
  rw [e, List.map_append]; rfl

set_option maxRecDepth 100000 in
set_option maxHeartbeats 2000000 in
theorem found_any (ts : List ByteArray) (v : Value) (w : World) (hv : RowS w v ts) (hsm : ∀ i, i < ts.length → (ts.getD i ⟨#[]⟩).size ≤ 100000) (htl : ts.length ≤ 1000000) (hT : (piecesOf ts).length ≤ 100000) :
    Calls Tryz.prog 38 #[v] w fun e w' => FoundEnd w (piecesOf ts) e w' := by
  obtain ⟨TA, tc, rfl, hTA⟩ := hv
  have HTA : Hid (ts.length = 0 ∨ ∃ b o, TA = some ⟨b, o, none⟩ ∧ b < w.heap.size ∧ ∀ i, i < ts.length → w.cell? ⟨b, o + i, none⟩ = some (.string (ts.getD i ⟨#[]⟩))) := hTA
  have HSM : Hid (∀ i, i < ts.length → (ts.getD i ⟨#[]⟩).size ≤ 100000) := hsm
  have HT : Hid ((piecesOf ts).length ≤ 100000) := hT
  obtain ⟨i9, hi, hz0, hz1, hz2⟩ := info_get Tryz.infoTerm
  clear hTA hsm hT
  have hmm : ∀ w : World, (Instr.makeMap 75 none).run Tryz.prog w = .ok (.map (some w.heap.size)) (w.alloc (.map #[] 0)) := fun w => run_makeMap _ w
  go_enter Tryz.func38, Tryz.ntmps38
  go_wp2_with fail
  have hms0 := MapS.new w
  have hb0 : Below w.heap.size w (w.alloc (.map #[] 0)) := Below.alloc (Below.refl _ _) (Nat.le_refl _) _
  generalize w.alloc (.map #[] 0) = w0 at *
  go_loopw [3, 14] (fun lv iv wr => FoRel w ts lv iv wr) (fun _ iv _ => ts.length - (intOf iv).toNat)
  case atStart => exact ⟨0, [], [], rfl, Nat.zero_le _, hms0, TermsAt.nil _ _, FK.nil, hb0⟩
  case round =>
    obtain ⟨n, ks, S, rfl, hn, hms, hta, hfk, hb⟩ := hrel
    have HB : Hid (Below w.heap.size w wr) := hb
    have HMS : Hid (MapS wr w.heap.size S) := hms
    have HL : Hid (TermsAt wr (w.heap.size + 1) u3 ks) := hta
    have HFK : Hid (FK ks S (piecesOf (ts.take n))) := hfk
    have hsz := hb.size
    have hlr := hms.lt
    clear hms hta hfk hb hms0 hb0
    by_cases hlt : n < ts.length
    · have hlt' : (n : Int) < (ts.length : Int) := by omega
      obtain ⟨tb, tof, rfl, htb, htc⟩ : ∃ b o, TA = some ⟨b, o, none⟩ ∧ b < w.heap.size ∧ ∀ i, i < ts.length → w.cell? ⟨b, o + i, none⟩ = some (.string (ts.getD i ⟨#[]⟩)) := by
        rcases HTA.out with h | h
        · omega
        · exact h
      have hc : wr.cell? ⟨tb, tof + n, none⟩ = some (.string (ts.getD n ⟨#[]⟩)) := by rw [HB.out.cell (by simpa using htb)]; exact htc n hlt
      have hxs := HSM.out n hlt
      have HPT : Hid (piecesOf (ts.take (n + 1)) = piecesOf (ts.take n) ++ mks (ts.getD n ⟨#[]⟩).data.toList) := piecesOf_take ts n hlt
      have HQ : Hid ((piecesOf (ts.take (n + 1))).length ≤ 100000) := Nat.le_trans (piecesOf_le ts (n + 1)) HT.out
      clear htc htb
      generalize ts.getD n ⟨#[]⟩ = x at *
      go_wp2_with fail
      refine (between_any x wr (by omega)).mono ?_
      rintro e w2 ⟨ps, A, cap, rfl, hps, hA, hb2⟩
      have hpsz : ∀ i, i < ps.length → (ps.getD i ⟨#[]⟩).size ≤ 100000 := fun i hi => by
        have hmem : (ps.getD i ⟨#[]⟩).data.toList ∈ brk tq x.data.toList [] := by
          have h1 : (ps.getD i ⟨#[]⟩).data.toList ∈ mks x.data.toList := by
            rw [← hps, List.getD, List.getElem?_eq_getElem hi]
            exact List.mem_map.2 ⟨ps[i], List.getElem_mem _, rfl⟩
          exact List.mem_of_mem_drop (List.dropLast_subset _ h1)
        have := brk_le tq _ _ _ hmem
        rw [size_list, size_list, List.length_nil] at this
        omega
      have HPZ : Hid (∀ i, i < ps.length → (ps.getD i ⟨#[]⟩).size ≤ 100000) := hpsz
      have HPS : Hid (ps.map (fun x : ByteArray => x.data.toList) = mks x.data.toList) := hps
      have hql : (piecesOf (ts.take n)).length + ps.length ≤ 100000 := by
        have h1 := HQ.out
        rw [HPT.out, List.length_append, ← hps, List.length_map] at h1; exact h1
      have hown := HL.out.1.lt
      obtain ⟨b, o, hAb, hbc⟩ : ∃ b o, (ps.length = 0 ∨ A = some ⟨b, o, none⟩) ∧ FiRel w b o ps (piecesOf (ts.take n)) u3 (.int .i64 0) w2 := by
        have hl0 : FK ks S (piecesOf (ts.take n) ++ (ps.take 0).map (·.data.toList)) := by simpa using HFK.out
        rcases hA with h0 | ⟨b, o, rfl, hb1, hb3, hb4⟩
        · exact ⟨0, 0, .inl h0, 0, ks, S, rfl, Nat.zero_le _, HMS.out.below hb2, HL.out.below hb2, hl0, HB.out.trans (hb2.mono hsz), fun i hi => by omega, fun h => by omega⟩
        · exact ⟨b, o, .inr rfl, 0, ks, S, rfl, Nat.zero_le _, HMS.out.below hb2, HL.out.below hb2, hl0, HB.out.trans (hb2.mono hsz), hb4, fun _ => ⟨hb3, by omega, fun e => by have := hown b e; omega⟩⟩
      have HAB : Hid (ps.length = 0 ∨ A = some ⟨b, o, none⟩) := hAb
      have HFI : Hid (FiRel w b o ps (piecesOf (ts.take n)) u3 (.int .i64 0) w2) := hbc
      clear hA hps hpsz hown hbc hAb hb2 HB HMS HL HFK
      go_wp2_with fail
      go_loopw [3, 21] (fun lv iv wr => FiRel w b o ps (piecesOf (ts.take n)) lv iv wr) (fun _ iv _ => ps.length - (intOf iv).toNat)
      case atStart => exact HFI.out
      case round =>
        obtain ⟨m, ks, S, rfl, hm, hms, hta, hfk, hb, hcl, hbo⟩ := hrel
        have HMS : Hid (MapS wr w.heap.size S) := hms
        have HL : Hid (TermsAt wr (w.heap.size + 1) u3 ks) := hta
        have HFK : Hid (FK ks S (piecesOf (ts.take n) ++ (ps.take m).map (·.data.toList))) := hfk
        have HB : Hid (Below w.heap.size w wr) := hb
        have hszr := hb.size
        have hlm := hms.lt
        have hkl : ks.length ≤ 100000 := by have := hfk.len; rw [List.length_append, List.length_map, List.length_take] at this; omega
        by_cases hlt2 : m < ps.length
        · have hlt2' : (m : Int) < (ps.length : Int) := by omega
          obtain ⟨hb1, hb2, hb3⟩ := hbo (by omega)
          have hHA := HAB.out
          obtain rfl : A = some ⟨b, o, none⟩ := by
            rcases hHA with h | h
            · omega
            · exact h
          clear hHA
          have hc := hcl m hlt2
          have hys := HPZ.out m hlt2
          have HTD : Hid ((ps.take (m + 1)).map (fun x : ByteArray => x.data.toList) = (ps.take m).map (fun x : ByteArray => x.data.toList) ++ [(ps.getD m ⟨#[]⟩).data.toList]) := take_data ps m hlt2
          have HCL : Hid (∀ i, i < ps.length → wr.cell? ⟨b, o + i, none⟩ = some (.string (ps.getD i ⟨#[]⟩))) := hcl
          have HB3 : Hid (u3.ownBlock ≠ some b) := hb3
          clear hta hfk hb hcl hbo hb3
          generalize ps.getD m ⟨#[]⟩ = y at *
          by_cases hyS : y ∈ S
          · have hlk := run_known hms y true (by simp [hyS])
            have HN : Hid (FK ks S (piecesOf (ts.take n) ++ (ps.take (m + 1)).map (·.data.toList))) := by show FK _ _ _; rw [HTD.out, ← List.append_assoc]; exact HFK.out.again hyS
            clear hms hyS
            go_wp2_with fail
            go_roundw
            case rel => exact ⟨m + 1, ks, S, by go_num, by omega, HMS.out, HL.out, HN.out, HB.out, HCL.out, fun _ => ⟨hb1, hb2, HB3.out⟩⟩
            case measure => simp [intOf]; omega
          · have hlk := run_known hms y false (by simp [hyS])
            obtain ⟨w3, hmk, hms3, ho3⟩ := run_mark hms y hyS
            have hsz3 := ho3.size
            have HREST : Hid (∀ W, Below w3.heap.size w3 W → MapS W w.heap.size (y :: S) ∧ TermsAt W (w.heap.size + 1) u3 ks ∧ Below w.heap.size w W ∧ (∀ i, i < ps.length → W.cell? ⟨b, o + i, none⟩ = some (.string (ps.getD i ⟨#[]⟩)))) := fun W hW =>
              ⟨hms3.below hW, (HL.out.only ho3 (by omega)).below hW, HB.out.trans ((ho3.toBelow (Nat.le_refl _) hszr).trans (hW.mono (by omega))), fun i hi => by
                rw [hW.cell (by simp; omega), ho3.cell (by simpa using hb1) (by simp; omega)]; exact HCL.out i hi⟩
            clear hms hyS hms3 ho3
            go_wp2_with fail
            refine (mread_any y w3 hys).mono ?_
            intro e w4 h12
            have HB4 : Hid (Below w3.heap.size w3 w4) := h12.below
            have hsz4 := h12.below.size
            obtain ⟨h1, h2⟩ := h12
            cases ht : inL y.data.toList with
            | error er =>
              obtain ⟨rfl, _⟩ := h1 er ht
              have HN : Hid (FK ks (y :: S) (piecesOf (ts.take n) ++ (ps.take (m + 1)).map (·.data.toList))) := by show FK _ _ _; rw [HTD.out, ← List.append_assoc]; exact HFK.out.none ht
              clear h1 h2 ht
              go_wp2_with fail
              go_roundw
              case rel =>
                obtain ⟨r1, r2, r3, r4⟩ := HREST.out _ (Below.alloc HB4.out hsz4 _)
                exact ⟨m + 1, ks, y :: S, by go_num, by omega, r1, r2, HN.out, r3, r4, fun _ => ⟨by simp; omega, hb2, HB3.out⟩⟩
              case measure => simp [intOf]; omega
            | ok z =>
              obtain ⟨a, l⟩ := z
              obtain ⟨v2, rfl, _, hf1, A3, cap3, b3, o3, rfl, hn3, hA3, hl3⟩ := h2 a l ht
              have hmay : may a l = true := by
                unfold inL at ht; split at ht
                · exact (one_may2 ht).2.1
                · cases ht
              have HN : Hid (FK (ks ++ [⟨0, 0, a, l, A3, cap3, b3, o3⟩]) (y :: S) (piecesOf (ts.take n) ++ (ps.take (m + 1)).map (·.data.toList))) := by show FK _ _ _; rw [HTD.out, ← List.append_assoc]; exact HFK.out.some (kd := ⟨0, 0, a, l, A3, cap3, b3, o3⟩) ht
              clear h1 h2 ht
              obtain ⟨w5, hw5⟩ : ∃ W : World, W = w4.alloc (.cells #[.int .i64 a.kind, .int .i64 a.n, .string a.s, .slice A3 (flen l) cap3] 24) := ⟨_, rfl⟩
              have hsz5 : w5.heap.size = w4.heap.size + 1 := by rw [hw5]; simp
              have hb5 : Below w3.heap.size w3 w5 := by rw [hw5]; exact Below.alloc HB4.out hsz4 _
              have HKD : Hid (Kd.Ok w5 (fun q => w3.heap.size ≤ q ∧ q < w5.heap.size) ⟨0, 0, a, l, A3, cap3, b3, o3⟩ ∧ may a l = true) := ⟨⟨hf1, hn3, hA3, RepG.keep (fun q hq => ⟨hq.1, by have := hq.2; omega⟩) (fun q j hq => by rw [hw5]; exact World.cell?_alloc_past _ _ _ (by have := hq.2; omega)) hl3⟩, hmay⟩
              have HB5 : Hid (Below w3.heap.size w3 w5) := hb5
              have HOWN : Hid (w5.ownsRow (w.heap.size + 1) 24 4 u3 ks.length (rowOf ks)) := (HREST.out w5 hb5).2.1.1
              have HT3 : Hid (TermsAt w3 (w.heap.size + 1) u3 ks) := (HREST.out w3 (Below.refl _ _)).2.1
              have c0 : w5.cell? ⟨w4.heap.size, 0, none⟩ = some (.int .i64 a.kind) := by rw [hw5]; simp [go_sem]
              have c1 : w5.cell? ⟨w4.heap.size, 1, none⟩ = some (.int .i64 a.n) := by rw [hw5]; simp [go_sem]
              have c2 : w5.cell? ⟨w4.heap.size, 2, none⟩ = some (.string a.s) := by rw [hw5]; simp [go_sem]
              have c3 : w5.cell? ⟨w4.heap.size, 3, none⟩ = some (.slice A3 (flen l) cap3) := by rw [hw5]; simp [go_sem]
              have c4 : w5.frozen? ⟨w4.heap.size, 0, none⟩ = false := by rw [hw5]; simp [go_sem]
              have H5 : Hid (w5.heap.size = w4.heap.size + 1) := hsz5
              have hsz6 : w3.heap.size ≤ w5.heap.size := by omega
              clear hf1 hA3 hl3 hmay hb5 hsz5
              go_upto_region 12 with fail
              rw [← hw5]
              clear hw5
              go_wp2_with (at_builtin; refine wpList_append_any _ rfl _ _ 22 rfl (w.heap.size + 1) 24 i9 (.agg #[.int .i64 0, .int .i64 0, .string ⟨#[]⟩, .slice none 0 0]) 4 56 Tryz.underlying22 hi hz0 hz1 hz2 rfl (by decide) u3 ks.length (rowOf ks) rfl ?own (some ⟨w5.heap.size, 0, none⟩) 1 1 [.int .i64 a.kind, .int .i64 a.n, .string a.s, .slice A3 (flen l) cap3] rfl ?src ?k3 ?k4 ?k5 ?_)
              case own => exact World.ownsRow.alloc HOWN.out _
              case src => exact .inr ⟨_, rfl, rfl, World.news_of_block (t := 24) (fr := (0, 0)) (heap_alloc_new w5 _), by simp [Value.oneCell']⟩
              case k3 => unfold maxLen; omega
              case k4 => omega
              case k5 => first | omega | (simp; omega)
              intro v8 w8 hown8 hgrow8 hat8
              have hsz5 := H5.out
              have HT8 : Hid (TermsAt w8 (w.heap.size + 1) v8 (ks ++ [⟨0, 0, a, l, A3, cap3, b3, o3⟩])) := terms_append HT3.out (by omega) HB5.out HKD.out.1 HKD.out.2 hown8 hgrow8 hat8
              have hs8 := hgrow8.size
              have hkeep : ∀ q, q < w5.heap.size → u3.ownBlock ≠ some q → w8.heap[q]? = w5.heap[q]? := fun q hq hne => by
                rw [hgrow8.block q (by simp; omega) (fun e => hne e.symm)]; exact Below.heap_alloc _ _ _ hq
              have hlt3 := HOWN.out.lt
              have HMS8 : Hid (MapS w8 w.heap.size (y :: S)) := (HREST.out w5 HB5.out).1.block (hkeep _ (by omega) (fun e => by have := hlt3 _ e; omega))
              have HB8 : Hid (Below w.heap.size w w8) := below_endR2 (HREST.out w5 HB5.out).2.2.1 HOWN.out hgrow8 hat8 (by omega) (by omega)
              have HC8 : Hid (∀ i, i < ps.length → w8.cell? ⟨b, o + i, none⟩ = some (.string (ps.getD i ⟨#[]⟩))) := fun i hi => by
                rw [World.cell?_of_block (hkeep b (by omega) HB3.out)]; exact (HREST.out w5 HB5.out).2.2.2 i hi
              have HO8 : Hid (v8.ownBlock ≠ some b) := fun e => by
                rcases hat8 with h | h
                · exact HB3.out (by rw [← h]; exact e)
                · rw [h] at e; injection e with e; omega
              simp only [World.heap_size_alloc'] at hs8
              have HB8L : Hid (b < w8.heap.size) := by show _ < _; omega
              clear hown8 hgrow8 hat8 hkeep hlt3 c0 c1 c2 c3 c4 hsz5 H5
              go_wp2_with fail
              go_roundw
              case rel => exact ⟨m + 1, ks ++ [⟨0, 0, a, l, A3, cap3, b3, o3⟩], y :: S, by go_num, by omega, HMS8.out, HT8.out, HN.out, HB8.out, HC8.out, fun _ => ⟨HB8L.out, hb2, HO8.out⟩⟩
              case measure => simp [intOf]; omega
        · have hlt2' : ¬ (m : Int) < (ps.length : Int) := by omega
          have HN : Hid (FK ks S (piecesOf (ts.take (n + 1)))) := by
            show FK _ _ _
            have := HFK.out
            rwa [show ps.take m = ps from List.take_of_length_le (by omega), HPS.out, ← HPT.out] at this
          clear hms hta hfk hb hcl hbo
          go_wp2_with fail
          go_roundw
          case rel => exact ⟨n + 1, ks, S, by go_num, by omega, HMS.out, HL.out, HN.out, HB.out⟩
          case measure => simp [intOf]; omega
    · have hlt' : ¬ (n : Int) < (ts.length : Int) := by omega
      have HN : Hid (FK ks S (piecesOf ts)) := by
        show FK _ _ _
        have := HFK.out
        rwa [List.take_of_length_le (by omega)] at this
      have hkl : ks.length ≤ 100000 := Nat.le_trans HN.out.len HT.out
      obtain ⟨hsl, hmay⟩ := HL.out.sl
      have hso := sortK hsl hmay hkl
      clear hsl hmay
      go_wp2_with fail
      refine hso.mono ?_
      rintro e w4 ⟨M, u, rfl, h1, h2, h3, h4, h5, h6, h7⟩
      have HE : Hid (FS M (piecesOf ts)) := HN.out.sorted h3 h4 h5
      clear hso h2 h3 h4 h5 h6
      go_wp2_with fail
      go_ret
      exact ⟨M, _, rfl, h1, HE.out, HB.out.trans (h7.mono hsz)⟩

end Go.Proofs.YtgmmbfnmojjbkaaGreatDoor

namespace Go.Proofs.YtgmmbfnmojjbkaaGreatDoor
open Go.RowKit
set_option linter.unusedVariables false
set_option linter.unusedSimpArgs false

/-- All pieces that Find tries. -/
def finP (s : List UInt8) : List (List UInt8) := (insP s ++ [s]).flatMap mks

theorem finP_texts {s : ByteArray} {ts : List ByteArray} (h : ts.map (·.data.toList) = insP s.data.toList) : piecesOf (ts ++ [s]) = finP s.data.toList := by
  unfold piecesOf finP
  rw [← h, List.flatMap_append, List.flatMap_append, List.flatMap_map]; simp

theorem sum_filter (p : List UInt8 → Bool) (f : List UInt8 → Nat) : ∀ l : List (List UInt8), ((l.filter p).map f).sum ≤ (l.map f).sum
  | [] => by simp
  | a :: l => by
    have ih := sum_filter p f l
    rw [List.filter_cons]
    split
    · simp only [List.map_cons, List.sum_cons]; omega
    · simp only [List.map_cons, List.sum_cons]; omega

theorem ins_sum (s : List UInt8) : ((insP s).map fun p => p.length + 1).sum ≤ s.length + 1 := by
  have h := brk_sum nq s []
  have h1 := sum_filter (fun r => !r.isEmpty) (fun p => p.length + 1) (brk nq s [])
  have h2 := sum_filter (fun r => dOk r) (fun p => p.length + 1) ((brk nq s []).filter fun r => !r.isEmpty)
  have h3 : ∀ l : List (List UInt8), ((l.map gL).map fun p => p.length + 1).sum ≤ (l.map fun p => p.length + 1).sum := by
    intro l
    induction l with
    | nil => simp
    | cons a l ih =>
      have := g_len a
      simp only [List.map_cons, List.sum_cons]; omega
  have h4 := h3 ((((brk nq s []).filter fun r => !r.isEmpty).filter fun r => dOk r))
  unfold insP
  simp at h
  omega

theorem pieces_sum : ∀ l : List (List UInt8), (l.flatMap mks).length ≤ (l.map fun p => p.length + 1).sum
  | [] => by simp
  | a :: l => by
    have ih := pieces_sum l
    have h := mks_len a
    rw [List.flatMap_cons, List.length_append, List.map_cons, List.sum_cons]; omega

theorem finP_len (s : List UInt8) : (finP s).length ≤ 2 * s.length + 2 := by
  have h1 := pieces_sum (insP s ++ [s])
  have h2 := ins_sum s
  rw [List.map_append, List.sum_append] at h1
  simp only [List.map_cons, List.map_nil, List.sum_cons, List.sum_nil] at h1
  unfold finP
  omega

theorem mem_sum {l : List (List UInt8)} {p : List UInt8} (hp : p ∈ l) : p.length + 1 ≤ (l.map fun p => p.length + 1).sum := by
  induction l with
  | nil => cases hp
  | cons a l ih =>
    rcases List.mem_cons.1 hp with rfl | hp
    · simp only [List.map_cons, List.sum_cons]; omega
    · have := ih hp; simp only [List.map_cons, List.sum_cons]; omega

theorem len_sum (l : List (List UInt8)) : l.length ≤ (l.map fun p => p.length + 1).sum := by
  induction l with
  | nil => simp
  | cons a l ih => simp only [List.map_cons, List.sum_cons, List.length_cons]; omega

/-- found, of what Find hands it. -/
theorem found_find {s : ByteArray} {ts : List ByteArray} (hm : s.size ≤ 30000) (h : ts.map (·.data.toList) = insP s.data.toList) (W : World) (B : Nat) (v : Value) (hown : OwnS W B v (ts ++ [s])) :
    Calls Tryz.prog 38 #[v] W fun e w' => FoundEnd W (finP s.data.toList) e w' := by
  have hs := ins_sum s.data.toList
  have hl := len_sum (insP s.data.toList)
  rw [← h, List.length_map] at hl
  rw [← h, size_list] at hs
  rw [← finP_texts h]
  refine found_any (ts ++ [s]) v W hown.row (fun i hi => ?_) (by simp; omega) ?_
  · have hmem : (ts ++ [s]).getD i ⟨#[]⟩ ∈ ts ++ [s] := by
      rw [List.getD, List.getElem?_eq_getElem hi]; exact List.getElem_mem _
    rcases List.mem_append.1 hmem with hx | hx
    · have := mem_sum (List.mem_map.2 ⟨_, hx, rfl⟩ : ((ts ++ [s]).getD i ⟨#[]⟩).data.toList ∈ ts.map (·.data.toList))
      rw [size_list] at this; omega
    · simp only [List.mem_singleton] at hx; rw [hx]; omega
  · rw [finP_texts h]
    have := finP_len s.data.toList
    rw [size_list] at this; omega

set_option maxRecDepth 100000 in
set_option maxHeartbeats 2000000 in
theorem mfind_any (s : ByteArray) (w : World) (hm : s.size ≤ 30000) :
    Calls Tryz.prog 21 #[.string s] w fun e w' => FoundEnd w (finP s.data.toList) e w' := by
  obtain ⟨i5, hi, hz0, hz1, hz2⟩ := info_has Tryz.infoStr
  have hins := fun W => inside_any s W (by omega)
  go_enter Tryz.func21, Tryz.ntmps21
  go_wp2_with fail
  refine (hins _).mono ?_
  rintro e w1 ⟨ts, u, B, rfl, hts, hB1, hB2, hown, hb1⟩
  have hlt := (World.ownsRow.lt hown)
  have hl := len_sum (insP s.data.toList)
  have hs := ins_sum s.data.toList
  rw [← hts, List.length_map] at hl
  rw [← hts, size_list] at hs
  have htl : ts.length ≤ 100000 := by omega
  have HO : Hid (OwnS w1 B u ts) := hown
  have HTS : Hid (ts.map (·.data.toList) = insP s.data.toList) := hts
  have HB : Hid (Below w.heap.size w w1) := hb1
  have hsz := hb1.size
  clear hins hown hts hb1 hl hs hlt
  go_wp2_with (at_builtin; refine wpList_append_any _ rfl _ _ 32 rfl B 9 i5 (.string ⟨#[]⟩) 1 16 Tryz.underlying32 hi hz0 hz1 hz2 rfl (by decide) u ts.length (ts.map Value.string) rfl ?own (some ⟨w1.heap.size, 0, none⟩) 1 1 [.string s] rfl ?src ?c3 ?c4 ?c5 ?_)
  case own => exact World.ownsRow.alloc HO.out _
  case src => exact .inr ⟨_, rfl, rfl, World.news_of_block (t := 9) (fr := (0, 0)) (heap_alloc_new w1 _), by simp [Value.oneCell']⟩
  case c3 => unfold maxLen; omega
  case c4 => omega
  case c5 => first | omega | (simp; omega)
  intro v6 w6 hown6 hgrow6 hat6
  have hf := found_find hm HTS.out w6 B v6 (OwnS.snoc hown6)
  have HB6 : Hid (Below w.heap.size w w6) := below_endR2 HB.out HO.out hgrow6 hat6 hsz hB1
  clear hown6 hgrow6 hat6
  go_wp2_with fail
  refine hf.mono ?_
  rintro e w7 ⟨M, u7, rfl, h1, h2, h3⟩
  have H2 : Hid (FS M (finP s.data.toList)) := h2
  have HB7 : Hid (Below w.heap.size w w7) := HB6.out.trans (h3.mono HB6.out.size)
  clear hf h2 h3
  go_wp2_with fail
  go_ret
  exact ⟨M, _, rfl, h1, H2.out, HB7.out⟩

end Go.Proofs.YtgmmbfnmojjbkaaGreatDoor
