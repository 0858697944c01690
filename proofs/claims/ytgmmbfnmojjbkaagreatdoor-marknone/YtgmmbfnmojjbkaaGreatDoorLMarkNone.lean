import Derived.Test.YtgmmbfnmojjbkaaGreatDoorMV
import Derived.Deep.RegionHeld3
namespace Go.Proofs.YtgmmbfnmojjbkaaGreatDoor
open Go.RowKit
set_option linter.unusedVariables false
set_option linter.unusedSimpArgs false

/-- No edge, no long run; at the end a full stop. -/
def NoL (l : List UInt8) : Prop := (∀ c ∈ l, tq c = false) ∧ (∀ r ∈ brk nq l [], r.length ≤ 1) ∧ (l = [] ∨ ∃ l', l = l' ++ [46])

theorem NoL.nil : NoL [] := ⟨by simp, by simp [brk], .inl rfl⟩

theorem NoL.app {l p : List UInt8} (h : NoL l) (h1 : ∀ c ∈ p, tq c = false) (h2 : ∀ r ∈ brk nq p [], r.length ≤ 1) : NoL (l ++ p ++ [46]) := by
  have hp : ∀ r ∈ brk nq (p ++ [46]) [], r.length ≤ 1 := fun r hr => by
    rw [brk_at nq 46 (by decide +kernel)] at hr
    rcases List.mem_append.1 hr with hr | hr
    · exact h2 r hr
    · simp [brk] at hr; subst hr; simp
  refine ⟨fun c hc => ?_, fun r hr => ?_, .inr ⟨_, rfl⟩⟩
  · rcases List.mem_append.1 hc with hc | hc
    · rcases List.mem_append.1 hc with hc | hc
      · exact h.1 c hc
      · exact h1 c hc
    · simp only [List.mem_singleton] at hc; subst hc; decide +kernel
  · rcases h.2.2 with rfl | ⟨l', rfl⟩
    · rw [List.nil_append] at hr; exact hp r hr
    · have hl := h.2.1
      rw [brk_at nq 46 (by decide +kernel)] at hl
      rw [show l' ++ [46] ++ p ++ [46] = l' ++ 46 :: (p ++ [46]) by simp, brk_at nq 46 (by decide +kernel)] at hr
      rcases List.mem_append.1 hr with hr | hr
      · exact hl r (List.mem_append.2 (.inl hr))
      · exact hp r hr

theorem dOk_one (c : UInt8) : dOk [c] = false := by
  rw [Bool.eq_false_iff]
  intro h
  unfold dOk at h
  have h := eq_of_beq h
  have := b64_mod (gL [c])
  rw [h] at this
  exact this rfl

/-- Where no run is long nothing is read within. -/
theorem ins_none {s : List UInt8} (h : ∀ r ∈ brk nq s [], r.length ≤ 1) : insP s = [] := by
  unfold insP
  rw [List.map_eq_nil_iff, List.filter_eq_nil_iff]
  intro r hr
  obtain ⟨hr1, hr2⟩ := List.mem_filter.1 hr
  have hl := h r hr1
  match r, hl, hr2 with
  | [c], _, _ => rw [dOk_one]; simp
  | [], _, h2 => simp at h2
  | _ :: _ :: _, hl, _ => simp at hl

theorem none_one {s : ByteArray} (h : NoL s.data.toList) : finP s.data.toList = [] := by
  unfold finP
  rw [ins_none h.2.1, List.nil_append]
  unfold mks
  simp only [List.flatMap_cons, List.flatMap_nil, List.append_nil]
  rw [brk_none tq _ [] h.1]; rfl

theorem none_two {s : ByteArray} (h : NoL s.data.toList) : finP (s ++ ⟨#[126]⟩ ++ s).data.toList = [] := by
  have e : (s ++ ⟨#[126]⟩ ++ s).data.toList = s.data.toList ++ 126 :: s.data.toList := by rw [ba_app, ba_app]; simp
  rw [e]
  unfold finP
  rw [ins_none (fun r hr => by
    rw [brk_at nq 126 (by decide +kernel)] at hr
    rcases List.mem_append.1 hr with hr | hr
    · exact h.2.1 r hr
    · exact h.2.1 r hr), List.nil_append]
  unfold mks
  simp only [List.flatMap_cons, List.flatMap_nil, List.append_nil]
  rw [brk_at tq 126 rfl, brk_none tq _ [] h.1]; rfl

theorem find_none {s : ByteArray} (hm : s.size ≤ 30000) (h : finP s.data.toList = []) (W : World) : Calls Tryz.prog 21 #[.string s] W fun e w' => ∃ A c, e = .returned (.slice A 0 c) ∧ Below W.heap.size W w' :=
  find_len s 0 [] hm (by rw [h]; exact FS.nil) rfl W

/-- Two texts of one mark are one. -/
theorem text_same {a b : Nd} {l m : Fo} (ha : may a l = true) (hb : may b m = true) : ((markS a l).toList == (markS b m).toList) = (ordT a l b m == 0) := by
  rw [Bool.eq_iff_iff, beq_iff_eq, beq_iff_eq]
  constructor
  · intro h
    have h1 : markL a l = markL b m := by
      have := (ByteArray.toList_eq (markS a l)).symm.trans (h.trans (ByteArray.toList_eq (markS b m)))
      rwa [show (markS a l).data.toList = markL a l from ba_list _, show (markS b m).data.toList = markL b m from ba_list _] at this
    have h2 := rd_mark ha
    rw [h1, rd_mark hb] at h2
    injection h2 with h2
    injection h2 with e1 e2
    subst e1
    exact ordT_norm _ e2.symm
  · intro h
    have h1 : putB a l = putB b m := by rw [putB, putB, if_pos ha, if_pos hb]; exact put_same h
    have h2 : markS a l = markS b m := by unfold markS markL; rw [h1]
    rw [h2]

def noStrs : List ByteArray := [⟨#[97]⟩, ⟨#[98, 32]⟩, ⟨#[46]⟩, ⟨#[38]⟩, ⟨#[61]⟩, ⟨#[47]⟩, ⟨#[34]⟩, ⟨#[37, 32]⟩]
theorem noStrs_at (i : Nat) (hi : i < 8) : [Value.string ⟨#[97]⟩, Value.string ⟨#[98, 32]⟩, Value.string ⟨#[46]⟩, Value.string ⟨#[38]⟩, Value.string ⟨#[61]⟩, Value.string ⟨#[47]⟩, Value.string ⟨#[34]⟩, Value.string ⟨#[37, 32]⟩][i]? = some (Value.string (noStrs[i]?.getD ByteArray.empty)) := by
  have : i = 0 ∨ i = 1 ∨ i = 2 ∨ i = 3 ∨ i = 4 ∨ i = 5 ∨ i = 6 ∨ i = 7 := by omega
  rcases this with rfl | rfl | rfl | rfl | rfl | rfl | rfl | rfl <;> rfl
theorem noStrs_ok (i : Nat) : (noStrs.getD i ByteArray.empty).size ≤ 2 ∧ (∀ c ∈ (noStrs.getD i ByteArray.empty).data.toList, tq c = false) ∧ ∀ r ∈ brk nq (noStrs.getD i ByteArray.empty).data.toList [], r.length ≤ 1 :=
  getD_all (fun s : ByteArray => s.size ≤ 2 ∧ (∀ c ∈ s.data.toList, tq c = false) ∧ ∀ r ∈ brk nq s.data.toList [], r.length ≤ 1) noStrs _ (by decide +kernel) (by decide +kernel) i

theorem pick8 (w : World) (tb B : Nat) (LA : Option Addr) (ns : List Int) (cap k sb sc : Nat) (ht : TapeAt w tb LA ns.length cap k) (hB : B ≤ tb) (hns : NumsAt w B ns LA) (hf : NumsFit ns) (hk : k ≤ ns.length)
    (hne : sb ≠ tb) (hsb : sb < w.heap.size) (hss : ∀ i, i < 8 → w.cell? ⟨sb, i, none⟩ = some (.string (noStrs.getD i ByteArray.empty))) :
    Calls Tryz.prog 25 #[.pointer (some ⟨tb, 0, none⟩), .slice (some ⟨sb, 0, none⟩) 8 sc] w fun e w' =>
      e = .returned (.string (noStrs.getD (nextV ns k 8).toNat ByteArray.empty)) ∧ Only tb w w' ∧ TapeAt w' tb LA ns.length cap (nextK ns k 8) :=
  pick_any w tb B LA ns cap k sb noStrs sc ht hB hns hf hk (by decide) (by decide) hne hsb hss

def NnRel (w : World) (B : Nat) (LA : Option Addr) (ns : List Int) (cap : Nat) (sv iv : Value) (wr : World) : Prop :=
  ∃ (i k : Nat) (s : ByteArray), sv = .string s ∧ iv = .int .i64 (i : Int) ∧ i ≤ 30 ∧ s.size ≤ 3 * i ∧ NoL s.data.toList ∧ k ≤ ns.length ∧ TapeAt wr w.heap.size LA ns.length cap k ∧ NumsAt wr B ns LA ∧ Below w.heap.size w wr

set_option maxRecDepth 100000 in
set_option maxHeartbeats 4000000 in
theorem markNone_any (ns ms : List Int) (LA LB : Option Addr) (cap cap2 : Nat) (w : World) (hns : NumsAt w w.heap.size ns LA) (hnf : NumsFit ns) (hms : NumsAt w w.heap.size ms LB) (hmf : NumsFit ms) :
    Calls Tryz.prog 6 #[.slice LA ns.length cap, .slice LB ms.length cap2] w fun e w' => e = .returned (.bool true) ∧ Below w.heap.size w w' := by
  have hnl := hnf.1
  go_enter Tryz.func6, Tryz.ntmps6
  go_wp2_with fail
  refine (known9_any _).mono ?_
  rintro e w1 ⟨rfl, hb1⟩
  have hB1 := hb1.size
  have hn1 := nums_below9 hns hb1 (Nat.le_refl _)
  have HB1 : Hid (Below w.heap.size w w1) := hb1
  have HNS : Hid (NumsAt w w.heap.size ns LA) := hns
  have HMS : Hid (NumsAt w w.heap.size ms LB) := hms
  clear hb1 hns hms
  go_wp2_with fail
  go_loopw [6, 7] (fun sv iv wr => NnRel w1 w.heap.size LA ns cap sv iv wr) (fun _ iv _ => 30 - (intOf iv).toNat)
  case atStart =>
    exact ⟨0, 0, _, rfl, rfl, Nat.zero_le _, Nat.zero_le _, NoL.nil, Nat.zero_le _, ⟨by simp, by simp [go_sem], by simp [go_sem], by simp [go_sem]⟩, nums_below9 hn1 (Below.alloc (Below.refl _ _) (Nat.le_refl _) _) hB1, Below.alloc (Below.refl _ _) (Nat.le_refl _) _⟩
  case round =>
    obtain ⟨i, k, s, rfl, rfl, him, hss, hno, hk, hta, hnu, hb⟩ := hrel
    have hsz := hb.size
    have hlr := hta.1
    have HB0 : Hid (Below w1.heap.size w1 wr) := hb
    have HT0 : Hid (TapeAt wr w1.heap.size LA ns.length cap k) := hta
    have HN0 : Hid (NumsAt wr w.heap.size ns LA) := hnu
    have HNO : Hid (NoL s.data.toList) := hno
    clear hn1 hno
    by_cases hlt : i < 30
    · have hlt' : (i : Int) < 30 := by omega
      clear hb hnu
      go_wp2_with fail
      refine (more_any _ _ _ _ _ _ hta hnl).mono ?_
      rintro e w2 ⟨rfl, m, rfl⟩
      have hbm : Below wr.heap.size wr (wr.drewN m) := below_drewN (Below.refl _ _) m
      generalize wr.drewN m = w2 at *
      have hsz2 := hbm.size
      have HB2 : Hid (Below w1.heap.size w1 w2) := HB0.out.trans (hbm.mono hsz)
      have HT2 : Hid (TapeAt w2 w1.heap.size LA ns.length cap k) := tape_below9 HT0.out hbm
      have HN2 : Hid (NumsAt w2 w.heap.size ns LA) := nums_below9 HN0.out hbm (by omega)
      clear hbm hta HB0 HT0 HN0
      by_cases hkl : k < ns.length
      · have hal : ∀ o : Obj, Below w2.heap.size w2 (w2.alloc o) := fun o => Below.alloc (Below.refl _ _) (Nat.le_refl _) _
        go_wp2_with fail
        refine (pick8 _ w1.heap.size w.heap.size LA ns cap k w2.heap.size 8 (tape_below9 HT2.out (hal _)) hB1 (nums_below9 HN2.out (hal _) (by omega)) hnf hk (by omega) (by simp) ?hs).mono ?_
        case hs => intro j hj; simp [go_sem]; exact noStrs_at j hj
        rintro e w5 ⟨rfl, ho5, ht5⟩
        obtain ⟨hsm, hq1, hq2⟩ := noStrs_ok (nextV ns k 8).toNat
        have hk7 := nextK_le ns k 8 hk
        have hsz5 := ho5.size
        simp only [World.heap_size_alloc'] at hsz5
        have HB5 : Hid (Below w1.heap.size w1 w5) := HB2.out.trans (((hal _).mono (by omega)).trans (ho5.toBelow (Nat.le_refl _) (by simp; omega)))
        have HN5 : Hid (NumsAt w5 w.heap.size ns LA) := nums_only (nums_below9 HN2.out (hal _) (by omega)) ho5 hB1 (by simp; omega)
        have HT5 : Hid (TapeAt w5 w1.heap.size LA ns.length cap (nextK ns k 8)) := ht5
        have HK5 : Hid (nextK ns k 8 ≤ ns.length) := hk7
        generalize noStrs.getD (nextV ns k 8).toNat ByteArray.empty = z at *
        generalize nextK ns k 8 = k7 at *
        have HNZ : Hid (NoL (s ++ z ++ ⟨#[46]⟩).data.toList) := by show NoL _; rw [ba_app, ba_app]; exact HNO.out.app hq1 hq2
        have hs2 : ¬ 9223372036854775807 < s.size + z.size := by omega
        have hs3 : ¬ 9223372036854775807 < s.size + z.size + 1 := by omega
        clear ho5 ht5 hk7 HB2 HN2 HT2 hal hq1 hq2
        go_wp2_with fail
        go_roundw
        case rel => exact ⟨i + 1, k7, _, rfl, by go_num, by omega, by rw [ByteArray.size_append, ByteArray.size_append]; show s.size + z.size + 1 ≤ _; omega, HNZ.out, HK5.out, HT5.out, HN5.out, HB5.out⟩
        case measure => simp [intOf]; omega
      · clear HT2 HN2
        have hw2 : w1.heap.size ≤ w2.heap.size := HB2.out.size
        skip
        · skip
          have hbw : Below w.heap.size w w2 := HB1.out.trans (HB2.out.mono HB1.out.size)
          have hma := one_may ns
          have hmb := one_may ms
          have hla := tape_len ns 4 0
          have ho1 := one_any ns LA cap w.heap.size w2 hbw.size (nums_below9 HNS.out hbw (Nat.le_refl _)) hnf
          have HO2 : Hid (∀ W, Below w.heap.size w W → Calls Tryz.prog 11 #[.slice LB ms.length cap2] W fun e w' => ∃ v, e = .returned v ∧ Below W.heap.size W w' ∧ RepVG w' (fun b => W.heap.size ≤ b ∧ b < w'.heap.size) (tapeT ms 4 0).1.1 (tapeT ms 4 0).1.2 v) := fun W hW => one_any ms LB cap2 w.heap.size W hW.size (nums_below9 HMS.out hW (Nat.le_refl _)) hmf
          generalize tapeT ns 4 0 = T at *
          generalize tapeT ms 4 0 = T' at *
          obtain ⟨⟨a, l⟩, k3⟩ := T
          obtain ⟨⟨b, m'⟩, k4⟩ := T'
          simp only at hma hmb ho1 HO2
          go_wp2_with fail
          refine ho1.mono ?_
          rintro e w6 ⟨v6, rfl, hb6', hr6⟩
          have hb6 := below_tr8 hbw hb6'
          have hV6 : RepV w6 w6.heap.size a l v6 := RepVG.toV (fun _ h => h.2) hr6
          obtain ⟨_, A6, cap6, b6, o6, rfl, _, _, _⟩ := hr6
          go_wp2_with fail
          refine (HO2.out w6 hb6).mono ?_
          rintro e w7 ⟨v7, rfl, hb7', hr7⟩
          have hb7 := below_tr8 hb6 hb7'
          have hV7 : RepV w7 w7.heap.size b m' v7 := RepVG.toV (fun _ h => h.2) hr7
          obtain ⟨_, A7, cap7, b7, o7, rfl, _, _, _⟩ := hr7
          have hV6' : RepV w7 w7.heap.size a l (.agg #[.int .i64 a.kind, .int .i64 a.n, .string a.s, .slice A6 (flen l) cap6]) := hV6.keep hb7'.size (fun b o hb' => hb7'.cell hb')
          clear ho1 HO2 hV6 hb6' hb7' hb6
          obtain ⟨w8, hw8⟩ : ∃ W : World, W = (w7.alloc (.cells #[.int .i64 a.kind, .int .i64 a.n, .string a.s, .slice A6 (flen l) cap6] 24)).alloc (.cells #[.int .i64 b.kind, .int .i64 b.n, .string b.s, .slice A7 (flen m') cap7] 24) := ⟨_, rfl⟩
          have hb8 : Below w7.heap.size w7 w8 := by rw [hw8]; exact Below.alloc (Below.alloc (Below.refl _ _) (Nat.le_refl _) _) (by simp) _
          have hx8 : Box4 w8 w7.heap.size (.int .i64 a.kind) (.int .i64 a.n) (.string a.s) (.slice A6 (flen l) cap6) := by rw [hw8]; exact (Box4.new w7 _ _ _ _ _).alloc _
          have hy8 : Box4 w8 (w7.heap.size + 1) (.int .i64 b.kind) (.int .i64 b.n) (.string b.s) (.slice A7 (flen m') cap7) := by
            have h := Box4.new (w7.alloc (.cells #[.int .i64 a.kind, .int .i64 a.n, .string a.s, .slice A6 (flen l) cap6] 24)) (.int .i64 b.kind) (.int .i64 b.n) (.string b.s) (.slice A7 (flen m') cap7) 24
            rw [World.heap_size_alloc'] at h
            rw [hw8]; exact h
          have hB8 : Below w.heap.size w w8 := below_tr8 hb7 hb8
          have HS : Hid (∀ W, Below w8.heap.size w8 W → ((W.cell? ⟨w7.heap.size, 0, none⟩ = some (.int .i64 a.kind) ∧ W.cell? ⟨w7.heap.size, 1, none⟩ = some (.int .i64 a.n) ∧ W.cell? ⟨w7.heap.size, 2, none⟩ = some (.string a.s) ∧ W.cell? ⟨w7.heap.size, 3, none⟩ = some (.slice A6 (flen l) cap6)) ∧ (W.cell? ⟨w7.heap.size + 1, 0, none⟩ = some (.int .i64 b.kind) ∧ W.cell? ⟨w7.heap.size + 1, 1, none⟩ = some (.int .i64 b.n) ∧ W.cell? ⟨w7.heap.size + 1, 2, none⟩ = some (.string b.s) ∧ W.cell? ⟨w7.heap.size + 1, 3, none⟩ = some (.slice A7 (flen m') cap7)) ∧ Below w8.heap.size w8 W)) := fun W hW => ⟨(hx8.below hW).2, (hy8.below hW).2, hW⟩
          obtain ⟨X, hX⟩ : ∃ X, X = markS a l := ⟨_, rfl⟩
          obtain ⟨Y, hY⟩ : ∃ Y, Y = markS b m' := ⟨_, rfl⟩
          have hva : ∀ W, Below w8.heap.size w8 W → RepV W W.heap.size a l (.agg #[.int .i64 a.kind, .int .i64 a.n, .string a.s, .slice A6 (flen l) cap6]) := fun W hW => hV6'.keep (by have := hb8.size; have := hW.size; omega) (fun b o hb' => (hb8.trans (hW.mono hb8.size)).cell hb')
          have hvb : ∀ W, Below w8.heap.size w8 W → RepV W W.heap.size b m' (.agg #[.int .i64 b.kind, .int .i64 b.n, .string b.s, .slice A7 (flen m') cap7]) := fun W hW => hV7.keep (by have := hb8.size; have := hW.size; omega) (fun b o hb' => (hb8.trans (hW.mono hb8.size)).cell hb')
          have P1 : Hid (∀ W, Below w8.heap.size w8 W → Calls Tryz.prog 21 #[.string s] W fun e w' => ∃ A c, e = .returned (.slice A 0 c) ∧ Below w8.heap.size w8 w') := fun W hW => (find_none (by omega) (none_one HNO.out) W).mono fun e w' ⟨A, c, h1, h2⟩ => ⟨A, c, h1, hW.trans (h2.mono hW.size)⟩
          have P2 : Hid (∀ W, Below w8.heap.size w8 W → Calls Tryz.prog 18 #[.agg #[.int .i64 a.kind, .int .i64 a.n, .string a.s, .slice A6 (flen l) cap6]] W fun e w' => e = .returned (.string X) ∧ Below w8.heap.size w8 w') := fun W hW => (mtext_any a l _ W (hva W hW)).mono fun e w' h => ⟨by rw [hX]; exact h.1, hW.trans (h.2.mono hW.size)⟩
          have P3 : Hid (∀ W, Below w8.heap.size w8 W → Calls Tryz.prog 18 #[.agg #[.int .i64 b.kind, .int .i64 b.n, .string b.s, .slice A7 (flen m') cap7]] W fun e w' => e = .returned (.string Y) ∧ Below w8.heap.size w8 w') := fun W hW => (mtext_any b m' _ W (hvb W hW)).mono fun e w' h => ⟨by rw [hY]; exact h.1, hW.trans (h.2.mono hW.size)⟩
          obtain ⟨sb, hsb⟩ : ∃ q, (X.toList == Y.toList) = q := ⟨_, rfl⟩
          have hsb2 : (ordT a l b m' == 0) = sb := by rw [← hsb, hX, hY, text_same hma hmb]
          have P4 : Hid (∀ W, Below w8.heap.size w8 W → Calls Tryz.prog 17 #[.agg #[.int .i64 a.kind, .int .i64 a.n, .string a.s, .slice A6 (flen l) cap6], .agg #[.int .i64 b.kind, .int .i64 b.n, .string b.s, .slice A7 (flen m') cap7]] W fun e w' => e = .returned (.bool sb) ∧ Below w8.heap.size w8 w') := fun W hW => by
            obtain ⟨k1, k2⟩ := may_ar a l hma
            obtain ⟨k3, k4⟩ := may_ar b m' hmb
            exact (refSame_any a l b m' _ _ W.heap.size W (hva W hW) (hvb W hW) (Nat.le_refl _) k1 k3 k2 k4).mono fun e w' h => ⟨by rw [← hsb2]; exact h.1, hW.trans (h.2.mono hW.size)⟩
          have P5 : Hid (∀ W, Below w8.heap.size w8 W → Calls Tryz.prog 21 #[.string (s ++ ⟨#[126]⟩ ++ s)] W fun e w' => ∃ A c, e = .returned (.slice A 0 c) ∧ Below w8.heap.size w8 w') := fun W hW => (find_none (by rw [ByteArray.size_append, ByteArray.size_append]; show s.size + 1 + s.size ≤ _; omega) (none_two HNO.out) W).mono fun e w' ⟨A, c, h1, h2⟩ => ⟨A, c, h1, hW.trans (h2.mono hW.size)⟩
          have z1 : ¬ 9223372036854775807 < s.size + 1 := by omega
          have z2 : ¬ 9223372036854775807 < s.size + 1 + s.size := by omega
          have hb0 : Below w8.heap.size w8 w8.drew := (Below.refl _ _).drew
          clear hX hY hsb2 hva hvb hx8 hy8 hV6' hV7 hma hmb hla hb7 hb8 hbw
          go_upto_region 10 with fail
          rw [← hw8]
          clear hw8
          go_region_held3 (fun W => (W.cell? ⟨w7.heap.size, 0, none⟩ = some (.int .i64 a.kind) ∧ W.cell? ⟨w7.heap.size, 1, none⟩ = some (.int .i64 a.n) ∧ W.cell? ⟨w7.heap.size, 2, none⟩ = some (.string a.s) ∧ W.cell? ⟨w7.heap.size, 3, none⟩ = some (.slice A6 (flen l) cap6)) ∧ (W.cell? ⟨w7.heap.size + 1, 0, none⟩ = some (.int .i64 b.kind) ∧ W.cell? ⟨w7.heap.size + 1, 1, none⟩ = some (.int .i64 b.n) ∧ W.cell? ⟨w7.heap.size + 1, 2, none⟩ = some (.string b.s) ∧ W.cell? ⟨w7.heap.size + 1, 3, none⟩ = some (.slice A7 (flen m') cap7)) ∧ Below w8.heap.size w8 W)
            (with_reducible (first | exact HS.out _ (Below.refl _ _) | exact HS.out _ hb0 | exact HS.out _ b1 | exact HS.out _ b2 | exact HS.out _ b3 | exact HS.out _ b4 | exact HS.out _ b5 | assumption))
            (first
              | (go_at_call_of 21 (Value.string s); refine (P1.out _ hb0).mono ?_; rintro e u1 ⟨B1, c1, rfl, b1⟩)
              | (go_at_call 21; refine (P5.out _ b4).mono ?_; rintro e u5 ⟨B5, c5, rfl, b5⟩)
              | (go_at_call_of 18 (Value.agg #[.int .i64 a.kind, .int .i64 a.n, .string a.s, .slice A6 (flen l) cap6]); refine (P2.out _ b1).mono ?_; rintro e u2 ⟨rfl, b2⟩)
              | (go_at_call 18; refine (P3.out _ b2).mono ?_; rintro e u3 ⟨rfl, b3⟩)
              | (go_at_call 17; refine (P4.out _ b3).mono ?_; rintro e u4 ⟨rfl, b4⟩))
          all_goals go_wp2_with fail
          all_goals go_ret
          all_goals exact ⟨ret_bool (by simp), below_tr8 hB8 b5⟩
    · have hlt' : ¬ (i : Int) < 30 := by omega
      have hw2 : w1.heap.size ≤ wr.heap.size := HB0.out.size
      clear hb hnu hta HT0 HN0
      skip
      · skip
        · skip
          have hbw : Below w.heap.size w wr := HB1.out.trans (HB0.out.mono HB1.out.size)
          have hma := one_may ns
          have hmb := one_may ms
          have hla := tape_len ns 4 0
          have ho1 := one_any ns LA cap w.heap.size wr hbw.size (nums_below9 HNS.out hbw (Nat.le_refl _)) hnf
          have HO2 : Hid (∀ W, Below w.heap.size w W → Calls Tryz.prog 11 #[.slice LB ms.length cap2] W fun e w' => ∃ v, e = .returned v ∧ Below W.heap.size W w' ∧ RepVG w' (fun b => W.heap.size ≤ b ∧ b < w'.heap.size) (tapeT ms 4 0).1.1 (tapeT ms 4 0).1.2 v) := fun W hW => one_any ms LB cap2 w.heap.size W hW.size (nums_below9 HMS.out hW (Nat.le_refl _)) hmf
          generalize tapeT ns 4 0 = T at *
          generalize tapeT ms 4 0 = T' at *
          obtain ⟨⟨a, l⟩, k3⟩ := T
          obtain ⟨⟨b, m'⟩, k4⟩ := T'
          simp only at hma hmb ho1 HO2
          go_wp2_with fail
          refine ho1.mono ?_
          rintro e w6 ⟨v6, rfl, hb6', hr6⟩
          have hb6 := below_tr8 hbw hb6'
          have hV6 : RepV w6 w6.heap.size a l v6 := RepVG.toV (fun _ h => h.2) hr6
          obtain ⟨_, A6, cap6, b6, o6, rfl, _, _, _⟩ := hr6
          go_wp2_with fail
          refine (HO2.out w6 hb6).mono ?_
          rintro e w7 ⟨v7, rfl, hb7', hr7⟩
          have hb7 := below_tr8 hb6 hb7'
          have hV7 : RepV w7 w7.heap.size b m' v7 := RepVG.toV (fun _ h => h.2) hr7
          obtain ⟨_, A7, cap7, b7, o7, rfl, _, _, _⟩ := hr7
          have hV6' : RepV w7 w7.heap.size a l (.agg #[.int .i64 a.kind, .int .i64 a.n, .string a.s, .slice A6 (flen l) cap6]) := hV6.keep hb7'.size (fun b o hb' => hb7'.cell hb')
          clear ho1 HO2 hV6 hb6' hb7' hb6
          obtain ⟨w8, hw8⟩ : ∃ W : World, W = (w7.alloc (.cells #[.int .i64 a.kind, .int .i64 a.n, .string a.s, .slice A6 (flen l) cap6] 24)).alloc (.cells #[.int .i64 b.kind, .int .i64 b.n, .string b.s, .slice A7 (flen m') cap7] 24) := ⟨_, rfl⟩
          have hb8 : Below w7.heap.size w7 w8 := by rw [hw8]; exact Below.alloc (Below.alloc (Below.refl _ _) (Nat.le_refl _) _) (by simp) _
          have hx8 : Box4 w8 w7.heap.size (.int .i64 a.kind) (.int .i64 a.n) (.string a.s) (.slice A6 (flen l) cap6) := by rw [hw8]; exact (Box4.new w7 _ _ _ _ _).alloc _
          have hy8 : Box4 w8 (w7.heap.size + 1) (.int .i64 b.kind) (.int .i64 b.n) (.string b.s) (.slice A7 (flen m') cap7) := by
            have h := Box4.new (w7.alloc (.cells #[.int .i64 a.kind, .int .i64 a.n, .string a.s, .slice A6 (flen l) cap6] 24)) (.int .i64 b.kind) (.int .i64 b.n) (.string b.s) (.slice A7 (flen m') cap7) 24
            rw [World.heap_size_alloc'] at h
            rw [hw8]; exact h
          have hB8 : Below w.heap.size w w8 := below_tr8 hb7 hb8
          have HS : Hid (∀ W, Below w8.heap.size w8 W → ((W.cell? ⟨w7.heap.size, 0, none⟩ = some (.int .i64 a.kind) ∧ W.cell? ⟨w7.heap.size, 1, none⟩ = some (.int .i64 a.n) ∧ W.cell? ⟨w7.heap.size, 2, none⟩ = some (.string a.s) ∧ W.cell? ⟨w7.heap.size, 3, none⟩ = some (.slice A6 (flen l) cap6)) ∧ (W.cell? ⟨w7.heap.size + 1, 0, none⟩ = some (.int .i64 b.kind) ∧ W.cell? ⟨w7.heap.size + 1, 1, none⟩ = some (.int .i64 b.n) ∧ W.cell? ⟨w7.heap.size + 1, 2, none⟩ = some (.string b.s) ∧ W.cell? ⟨w7.heap.size + 1, 3, none⟩ = some (.slice A7 (flen m') cap7)) ∧ Below w8.heap.size w8 W)) := fun W hW => ⟨(hx8.below hW).2, (hy8.below hW).2, hW⟩
          obtain ⟨X, hX⟩ : ∃ X, X = markS a l := ⟨_, rfl⟩
          obtain ⟨Y, hY⟩ : ∃ Y, Y = markS b m' := ⟨_, rfl⟩
          have hva : ∀ W, Below w8.heap.size w8 W → RepV W W.heap.size a l (.agg #[.int .i64 a.kind, .int .i64 a.n, .string a.s, .slice A6 (flen l) cap6]) := fun W hW => hV6'.keep (by have := hb8.size; have := hW.size; omega) (fun b o hb' => (hb8.trans (hW.mono hb8.size)).cell hb')
          have hvb : ∀ W, Below w8.heap.size w8 W → RepV W W.heap.size b m' (.agg #[.int .i64 b.kind, .int .i64 b.n, .string b.s, .slice A7 (flen m') cap7]) := fun W hW => hV7.keep (by have := hb8.size; have := hW.size; omega) (fun b o hb' => (hb8.trans (hW.mono hb8.size)).cell hb')
          have P1 : Hid (∀ W, Below w8.heap.size w8 W → Calls Tryz.prog 21 #[.string s] W fun e w' => ∃ A c, e = .returned (.slice A 0 c) ∧ Below w8.heap.size w8 w') := fun W hW => (find_none (by omega) (none_one HNO.out) W).mono fun e w' ⟨A, c, h1, h2⟩ => ⟨A, c, h1, hW.trans (h2.mono hW.size)⟩
          have P2 : Hid (∀ W, Below w8.heap.size w8 W → Calls Tryz.prog 18 #[.agg #[.int .i64 a.kind, .int .i64 a.n, .string a.s, .slice A6 (flen l) cap6]] W fun e w' => e = .returned (.string X) ∧ Below w8.heap.size w8 w') := fun W hW => (mtext_any a l _ W (hva W hW)).mono fun e w' h => ⟨by rw [hX]; exact h.1, hW.trans (h.2.mono hW.size)⟩
          have P3 : Hid (∀ W, Below w8.heap.size w8 W → Calls Tryz.prog 18 #[.agg #[.int .i64 b.kind, .int .i64 b.n, .string b.s, .slice A7 (flen m') cap7]] W fun e w' => e = .returned (.string Y) ∧ Below w8.heap.size w8 w') := fun W hW => (mtext_any b m' _ W (hvb W hW)).mono fun e w' h => ⟨by rw [hY]; exact h.1, hW.trans (h.2.mono hW.size)⟩
          obtain ⟨sb, hsb⟩ : ∃ q, (X.toList == Y.toList) = q := ⟨_, rfl⟩
          have hsb2 : (ordT a l b m' == 0) = sb := by rw [← hsb, hX, hY, text_same hma hmb]
          have P4 : Hid (∀ W, Below w8.heap.size w8 W → Calls Tryz.prog 17 #[.agg #[.int .i64 a.kind, .int .i64 a.n, .string a.s, .slice A6 (flen l) cap6], .agg #[.int .i64 b.kind, .int .i64 b.n, .string b.s, .slice A7 (flen m') cap7]] W fun e w' => e = .returned (.bool sb) ∧ Below w8.heap.size w8 w') := fun W hW => by
            obtain ⟨k1, k2⟩ := may_ar a l hma
            obtain ⟨k3, k4⟩ := may_ar b m' hmb
            exact (refSame_any a l b m' _ _ W.heap.size W (hva W hW) (hvb W hW) (Nat.le_refl _) k1 k3 k2 k4).mono fun e w' h => ⟨by rw [← hsb2]; exact h.1, hW.trans (h.2.mono hW.size)⟩
          have P5 : Hid (∀ W, Below w8.heap.size w8 W → Calls Tryz.prog 21 #[.string (s ++ ⟨#[126]⟩ ++ s)] W fun e w' => ∃ A c, e = .returned (.slice A 0 c) ∧ Below w8.heap.size w8 w') := fun W hW => (find_none (by rw [ByteArray.size_append, ByteArray.size_append]; show s.size + 1 + s.size ≤ _; omega) (none_two HNO.out) W).mono fun e w' ⟨A, c, h1, h2⟩ => ⟨A, c, h1, hW.trans (h2.mono hW.size)⟩
          have z1 : ¬ 9223372036854775807 < s.size + 1 := by omega
          have z2 : ¬ 9223372036854775807 < s.size + 1 + s.size := by omega
          have hb0 : Below w8.heap.size w8 w8.drew := (Below.refl _ _).drew
          clear hX hY hsb2 hva hvb hx8 hy8 hV6' hV7 hma hmb hla hb7 hb8 hbw
          go_upto_region 10 with fail
          rw [← hw8]
          clear hw8
          go_region_held3 (fun W => (W.cell? ⟨w7.heap.size, 0, none⟩ = some (.int .i64 a.kind) ∧ W.cell? ⟨w7.heap.size, 1, none⟩ = some (.int .i64 a.n) ∧ W.cell? ⟨w7.heap.size, 2, none⟩ = some (.string a.s) ∧ W.cell? ⟨w7.heap.size, 3, none⟩ = some (.slice A6 (flen l) cap6)) ∧ (W.cell? ⟨w7.heap.size + 1, 0, none⟩ = some (.int .i64 b.kind) ∧ W.cell? ⟨w7.heap.size + 1, 1, none⟩ = some (.int .i64 b.n) ∧ W.cell? ⟨w7.heap.size + 1, 2, none⟩ = some (.string b.s) ∧ W.cell? ⟨w7.heap.size + 1, 3, none⟩ = some (.slice A7 (flen m') cap7)) ∧ Below w8.heap.size w8 W)
            (with_reducible (first | exact HS.out _ (Below.refl _ _) | exact HS.out _ hb0 | exact HS.out _ b1 | exact HS.out _ b2 | exact HS.out _ b3 | exact HS.out _ b4 | exact HS.out _ b5 | assumption))
            (first
              | (go_at_call_of 21 (Value.string s); refine (P1.out _ hb0).mono ?_; rintro e u1 ⟨B1, c1, rfl, b1⟩)
              | (go_at_call 21; refine (P5.out _ b4).mono ?_; rintro e u5 ⟨B5, c5, rfl, b5⟩)
              | (go_at_call_of 18 (Value.agg #[.int .i64 a.kind, .int .i64 a.n, .string a.s, .slice A6 (flen l) cap6]); refine (P2.out _ b1).mono ?_; rintro e u2 ⟨rfl, b2⟩)
              | (go_at_call 18; refine (P3.out _ b2).mono ?_; rintro e u3 ⟨rfl, b3⟩)
              | (go_at_call 17; refine (P4.out _ b3).mono ?_; rintro e u4 ⟨rfl, b4⟩))
          all_goals go_wp2_with fail
          all_goals go_ret
          all_goals exact ⟨ret_bool (by simp), below_tr8 hB8 b5⟩

end Go.Proofs.YtgmmbfnmojjbkaaGreatDoor
