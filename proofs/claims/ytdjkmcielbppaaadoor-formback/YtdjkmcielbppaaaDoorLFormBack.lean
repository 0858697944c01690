import Derived.Test.YtdjkmcielbppaaaDoorQM
namespace Go.Proofs.YtdjkmcielbppaaaDoor
open Go.RowKit
set_option linter.unusedVariables false
set_option linter.unusedSimpArgs false

/-- Two rows of fields of the same names. -/
def SameN (l m : List Fd) : Prop := l.map (·.1) = m.map (·.1)
theorem hasF_names (l : List Fd) (n : ByteArray) : hasF l n = (l.map (·.1)).any fun x => decide (x = n) := by
  unfold hasF; rw [List.any_map]; rfl
theorem SameN.has {l m : List Fd} (h : SameN l m) (n : ByteArray) : hasF l n = hasF m n := by rw [hasF_names, hasF_names, h]
theorem SameN.len {l m : List Fd} (h : SameN l m) : l.length = m.length := by have := congrArg List.length h; simpa using this
theorem SameN.unl {l m : List Fd} (h : SameN l m) (hu : Unl l) : Unl m := by
  intro i hi
  have hl := h.len
  obtain ⟨h1, h2⟩ := hu i (by omega)
  have e : (l.getD i fd0).1 = (m.getD i fd0).1 := by
    have := congrArg (fun x => x[i]?) h
    simp only [List.getElem?_map] at this
    rw [List.getElem?_eq_getElem (show i < l.length by omega), List.getElem?_eq_getElem hi] at this
    simp only [Option.map_some, Option.some.injEq] at this
    simp [List.getD, List.getElem?_eq_getElem (show i < l.length by omega), List.getElem?_eq_getElem hi, this]
  have ht : SameN (l.take i) (m.take i) := by
    show _ = _
    rw [List.map_take, List.map_take, h]
  rw [← e]
  exact ⟨h1, by rw [← ht.has]; exact h2⟩
theorem SameN.refl (l : List Fd) : SameN l l := rfl

/-- One value turned. -/
theorem set_same (l : List Fd) (i : Nat) (v : ByteArray) (h : i < l.length) : SameN l (l.set i ((l.getD i fd0).1, v)) := by
  show _ = _
  rw [List.map_set]
  apply List.ext_getElem?
  intro j
  rw [List.getElem?_set, List.getElem?_map]
  split
  · next hj =>
    subst hj
    rw [if_pos (by simpa using h), List.getElem?_eq_getElem h]
    simp [List.getD, List.getElem?_eq_getElem h]
  · rfl

theorem cellsF_set : ∀ (l : List Fd) (i : Nat) (v : ByteArray), i < l.length → (cellsF l).set (i * 2 + 1) (.string v) = cellsF (l.set i ((l.getD i fd0).1, v))
  | [], i, v, h => by simp at h
  | f :: l, 0, v, _ => by simp [cellsF]
  | f :: l, i + 1, v, h => by
    have ih := cellsF_set l i v (by simpa using h)
    have e : cellsF (f :: l) = .string f.1 :: .string f.2 :: cellsF l := rfl
    rw [e, show (i + 1) * 2 + 1 = i * 2 + 1 + 1 + 1 by omega, List.set_cons_succ, List.set_cons_succ, List.set_cons_succ]
    rw [ih]; rfl

theorem getF_at : ∀ (l : List Fd), Unl l → ∀ i, i < l.length → getF l (l.getD i fd0).1 = (l.getD i fd0).2 ∧ hasF l (l.getD i fd0).1 = true := by
  intro l hu i hi
  refine ⟨?_, hasF_mem (getD_mem l i hi)⟩
  have key : ∀ (a b : List Fd) (f : Fd), hasF a f.1 = false → getF (a ++ f :: b) f.1 = f.2 := by
    intro a b f h
    induction a with
    | nil => simp [getF]
    | cons g a ih =>
      rw [hasF_cons] at h
      simp only [Bool.or_eq_false_iff, decide_eq_false_iff_not] at h
      rw [List.cons_append, getF, if_neg h.1]; exact ih h.2
  have e : l = l.take i ++ l.getD i fd0 :: l.drop (i + 1) := by
    conv => lhs; rw [← List.take_append_drop i l, drop_fd l i hi]
  have h9 := key (l.take i) (l.drop (i + 1)) (l.getD i fd0) (hu i hi).2
  rw [← e] at h9; exact h9

theorem OwnF.shape {w : World} {B : Nat} {v : Value} {l : List Fd} (h : OwnF w B v l) : ∃ A cp, v = .slice A l.length cp ∧ l.length ≤ cp ∧ (l.length = 0 ∨ ∃ g, A = some ⟨g, 0, none⟩ ∧ B ≤ g ∧ g < w.heap.size) := by
  have hlt := World.ownsRow.lt h
  rcases h.2 with ⟨h1, h2⟩ | ⟨g, cap, cur, h3, h4, h5, hcp, _⟩
  · exact ⟨none, 0, by rw [h1, h2], by omega, .inl h2⟩
  · exact ⟨_, cap, h3, hcp, .inr ⟨g, rfl, h4, (hlt g (by rw [h3]; rfl)).2⟩⟩

theorem cellsF_one (l : List Fd) : ∀ u ∈ cellsF l, u.oneCell' = true := by
  intro u hu
  obtain ⟨f, _, hf⟩ := List.mem_flatMap.1 hu
  simp at hf
  rcases hf with rfl | rfl <;> rfl

theorem OwnF.src {w : World} {B : Nat} {A : Option Addr} {n cp : Nat} {l : List Fd} (h : OwnF w B (.slice A n cp) l) : SrcAt w 2 A l.length (cellsF l) := by
  rcases h.2 with ⟨h1, h2⟩ | ⟨g, cap, cur, h3, h4, h5, hcp, _⟩
  · exact .inl ⟨h2, by rw [List.eq_nil_of_length_eq_zero h2]; rfl⟩
  · have h' := h
    unfold OwnF at h'
    rw [h3] at h'
    injection h3 with e1 e2 e3
    subst e1
    exact .inr ⟨_, rfl, cellsF_len l, h'.cells (g := g) rfl, cellsF_one l⟩

/-- A value turned in one's own row. -/
theorem OwnF.put {w : World} {B : Nat} {g cp n i : Nat} {l : List Fd} (h : OwnF w B (.slice (some ⟨g, 0, none⟩) n cp) l) (hi : i < l.length) (x : ByteArray) :
    OwnF (w.setCell ⟨g, i * 2 + 1, none⟩ (.string x)) B (.slice (some ⟨g, 0, none⟩) n cp) (l.set i ((l.getD i fd0).1, x)) := by
  have hn : n = l.length := by
    rcases h.2 with ⟨h1, _⟩ | ⟨g2, c2, cur, h3, _⟩
    · cases h1
    · injection h3
  subst hn
  have := (World.ownsRow.stored h (i * 2 + 1) (.string x)).1
  unfold OwnF
  rw [← cellsF_set l i x hi, List.length_set]
  exact this

theorem OwnF.frz {w : World} {B : Nat} {g cp n : Nat} {l : List Fd} (h : OwnF w B (.slice (some ⟨g, 0, none⟩) n cp) l) (j : Nat) : w.frozen? ⟨g, j, none⟩ = false := by
  rcases h.2 with ⟨h1, _⟩ | ⟨g2, c2, cur, h3, _, h5, _⟩
  · cases h1
  · injection h3 with e1 e2 e3; injection e1 with e1; injection e1 with e1; subst e1
    simp [World.frozen?, h5]

theorem OwnF.empty (W : World) : OwnF (W.alloc (.cells #[] 26)) W.heap.size (.slice (some ⟨W.heap.size, 0, none⟩) 0 0) [] :=
  ⟨rfl, .inr ⟨W.heap.size, 0, #[], rfl, Nat.le_refl _, heap_alloc_new W _, Nat.le_refl _, Nat.zero_le _, rfl, rfl⟩⟩

theorem below_grow {w w6 : World} {B n : Nat} {u v6 : Value} {xs : List Value} {e : TypeId} {sz : Nat} (hown : w.ownsRow B e sz u n xs) (hg : w.grownBy w6 u.ownBlock) (hat : v6.ownBlock = u.ownBlock ∨ v6.ownBlock = some w.heap.size) (hB : B ≤ w.heap.size) : Below B w w6 :=
  ((Grew.refl w u).step hg hat).toBelow (fun q hq => (World.ownsRow.lt hown q hq).1) hB

theorem par_two {m : List Fd} (h : Unl m) (hl : m.length ≤ 12) : parF (prS (m ++ m)) = (if m.length = 0 then 0 else 6, []) := by
  by_cases hm : m.length = 0
  · rw [if_pos hm, List.eq_nil_of_length_eq_zero hm]; decide +kernel
  · rw [if_neg hm]; exact par_twice h (fun e => hm (by rw [e]; rfl)) hl

def SmallF (l : List Fd) : Prop := ∀ f ∈ l, f.1.size ≤ 5 ∧ f.2.size ≤ 100

theorem SmallF.sum {l : List Fd} (h : SmallF l) : sumF l ≤ 105 * l.length := by
  induction l with
  | nil => simp [sumF]
  | cons f l ih =>
    have := ih (fun g hg => h g (by simp [hg]))
    have h2 := h f (by simp)
    rw [sumF_cons, List.length_cons]; omega
theorem SmallF.set {l : List Fd} (h : SmallF l) (i : Nat) (hi : i < l.length) (x : ByteArray) (hx : x.size ≤ 100) : SmallF (l.set i ((l.getD i fd0).1, x)) := by
  intro f hf
  rcases List.mem_or_eq_of_mem_set hf with hf | rfl
  · exact h f hf
  · exact ⟨(h _ (getD_mem l i hi)).1, hx⟩

theorem OwnF.len {w : World} {B : Nat} {A : Option Addr} {n cp : Nat} {l : List Fd} (h : OwnF w B (.slice A n cp) l) : n = l.length := by
  rcases h.2 with ⟨h1, h2⟩ | ⟨g2, c2, cur, h3, _⟩
  · injection h1 with e1 e2 e3; omega
  · injection h3

set_option maxRecDepth 100000 in
set_option maxHeartbeats 4000000 in
theorem formBack_any (ns : List Int) (LA : Option Addr) (cap : Nat) (vs : List ByteArray) (VA : Option Addr) (cap2 : Nat) (w : World) (hns : NumsAt w w.heap.size ns LA) (hf : NumsFit ns)
    (hvs : RowS w (.slice VA vs.length cap2) vs) (hvl : vs.length ≤ 9223372036854775807) (ht : Tab16 w.heap.size w) :
    Calls Tryd.prog 4 #[.slice LA ns.length cap, .slice VA vs.length cap2] w fun e w' => e = .returned (.bool true) ∧ Below w.heap.size w w' := by
  have hk := known10_any w ht
  have HT : Hid (Tab16 w.heap.size w) := ht
  have HV : Hid (RowS w (.slice VA vs.length cap2) vs) := hvs
  clear ht hvs
  obtain ⟨i5, hi, hz0, hz1, hz2⟩ := info_has Tryd.infoFd
  go_enter Tryd.func4, Tryd.ntmps4
  go_wp2_with fail
  refine hk.mono ?_
  rintro e w1 ⟨rfl, h1⟩
  have HB1 : Hid (Below w.heap.size w w1) := h1
  have s1 := h1.size
  have k1 := fields10_any ns LA cap w.heap.size 9 (by decide) w1 s1 (hns.below h1) hf
  clear h1 hk hns
  go_wp2_with fail
  refine k1.mono ?_
  rintro e w2 ⟨v, rfl, hown, h2⟩
  have HB2 : Hid (Below w1.heap.size w1 w2) := h2
  have s2 := h2.size
  have hfk := fldF_ok ns 9 0 [] FOk.nil
  have hfl := fldF_len ns 9 0 []
  clear k1 h2
  generalize fldF ns 9 0 [] = m0 at *
  have hml : m0.length ≤ 9 := by simpa using hfl
  have HU : Hid (Unl m0) := hfk.1
  have HS0 : Hid (SmallF m0) := fun f hf => ⟨(hfk.2 f hf).1, by have := (hfk.2 f hf).2; omega⟩
  obtain ⟨A, cp, rfl, hcp, hA⟩ := hown.shape
  have HO : Hid (OwnF w2 w1.heap.size (.slice A m0.length cp) m0) := hown
  clear hfk hfl hown
  go_wp2_with fail
  go_loopw [6] (fun iv wr => ∃ (i : Nat) (m : List Fd), iv = .int .i64 (i : Int) ∧ i ≤ m0.length ∧ SameN m0 m ∧ SmallF m ∧ OwnF wr w1.heap.size (.slice A m0.length cp) m ∧ Below w1.heap.size w1 wr) (fun iv _ => m0.length - (intOf iv).toNat)
  case atStart => exact ⟨0, m0, rfl, Nat.zero_le _, SameN.refl _, HS0.out, HO.out, HB2.out⟩
  case round =>
    obtain ⟨i, m, rfl, hi0, hsn, hsm, hom, hb⟩ := hrel
    have HN : Hid (SameN m0 m) := hsn
    have HS : Hid (SmallF m) := hsm
    have HM : Hid (OwnF wr w1.heap.size (.slice A m0.length cp) m) := hom
    have HB : Hid (Below w1.heap.size w1 wr) := hb
    have hwr := hb.size
    have HMM : Hid (m0.length = m.length) := hsn.len
    clear hsn hsm hom hb
    by_cases hp : i < m0.length ∧ i < vs.length
    · obtain ⟨hp1, hp2⟩ := hp
      have hp1' : (i : Int) < (m0.length : Int) := by omega
      have hp2' : (i : Int) < (vs.length : Int) := by omega
      obtain ⟨b, o, rfl, hbl, hc⟩ := (HV.out.below HB1.out).hold (by omega)
      have d0 := hc i hp2
      rw [← HB.out.cell (by simpa using hbl)] at d0
      obtain ⟨g, rfl, hg1, hg2⟩ : ∃ g, A = some ⟨g, 0, none⟩ ∧ w1.heap.size ≤ g ∧ g < w2.heap.size := by
        rcases hA with h | h
        · omega
        · exact h
      obtain ⟨c0, c1⟩ := (by
        have hmm := HMM.out
        obtain ⟨b', o', e, _, h⟩ := HM.out.row.hold (by omega)
        injection e with e; injection e with e1 e2; subst e1 e2
        exact h i (by omega) : wr.cell? ⟨g, 0 + i * 2, none⟩ = some (.string (m.getD i fd0).1) ∧ wr.cell? ⟨g, 0 + i * 2 + 1, none⟩ = some (.string (m.getD i fd0).2))
      have f1 := HM.out.frz (i * 2 + 1)
      rw [Nat.zero_add] at c0 c1
      clear hc
      generalize vs.getD i ⟨#[]⟩ = x at *
      by_cases hx : x.size ≤ 100
      · have hx' : (x.size : Int) ≤ 100 := by omega
        have HM2 : Hid (OwnF (wr.setCell ⟨g, i * 2 + 1, none⟩ (.string x)) w1.heap.size (.slice (some ⟨g, 0, none⟩) m0.length cp) (m.set i ((m.getD i fd0).1, x))) := HM.out.put (by have := HMM.out; omega) x
        have HN2 : Hid (SameN m0 (m.set i ((m.getD i fd0).1, x))) := HN.out.trans (set_same m i x (by have := HMM.out; omega))
        have HS2 : Hid (SmallF (m.set i ((m.getD i fd0).1, x))) := HS.out.set i (by have := HMM.out; omega) x hx
        have hb2 := HB.out.setCell (p := ⟨g, i * 2 + 1, none⟩) hg1 (.string x)
        have HB3 : Hid (Below w1.heap.size w1 (wr.setCell ⟨g, i * 2 + 1, none⟩ (.string x))) := hb2
        clear hb2
        go_wp2_with fail
        go_roundw
        case rel => exact ⟨i + 1, _, by go_num, by omega, HN2.out, HS2.out, HM2.out, HB3.out⟩
        case measure => simp [intOf]; omega
      · have hx' : ¬ (x.size : Int) ≤ 100 := by omega
        go_wp2_with fail
        go_roundw
        case rel => exact ⟨i + 1, m, by go_num, by omega, HN.out, HS.out, HM.out, HB.out⟩
        case measure => simp [intOf]; omega
    · have HP : Hid (¬ (i < m0.length ∧ i < vs.length)) := hp
      clear hp
      by_cases hp1 : i < m0.length
      · have hp1' : (i : Int) < (m0.length : Int) := by omega
        have hp2' : ¬ (i : Int) < (vs.length : Int) := by have := HP.out; omega
        clear hp1 HP
        have HUM : Hid (Unl m) := HN.out.unl HU.out
        generalize hn0 : m0.length = n0 at *
        have hmm := HMM.out
        subst hmm
        clear hn0 HMM HN HU HS0 HO
        have hsum := HS.out.sum
        have hsz : ∀ f ∈ m, f.2.size ≤ 1000000 := fun f hf => by have := (HS.out f hf).2; omega
        have HSZ : Hid (∀ f ∈ m, f.2.size ≤ 1000000) := hsz
        have HBW : Hid (Below w.heap.size w wr) := HB1.out.trans (HB.out.mono s1)
        have hpl := (prL_len m).1
        rw [← prS_size] at hpl
        have kp := qprint_at HT.out m (.slice A m.length cp) (by omega) (by omega) (prS m) rfl wr HM.out.row HBW.out
        have kq := fun W hW => qparse_at HT.out (prS m) (by omega) 0 m (par_pr HUM.out (by omega)) W hW
        generalize prS m = pm at *
        clear hsz
        go_wp2_with fail
        refine kp.mono ?_
        rintro e w3 ⟨rfl, h3⟩
        have O3 : Hid (OwnF w3 w1.heap.size (.slice A m.length cp) m) := HM.out.below h3
        have B3 : Hid (Below w.heap.size w w3) := HBW.out.trans (h3.mono HBW.out.size)
        have t3 := h3.size
        clear h3 kp
        go_wp2_with fail
        refine (kq w3 B3.out).mono ?_
        rintro e w4 ⟨v4, rfl, r4, _, h4⟩
        have O4 : Hid (OwnF w4 w1.heap.size (.slice A m.length cp) m) := O3.out.below h4
        have R4 : Hid (RowF w4 v4 m) := r4
        have B4 : Hid (Below w.heap.size w w4) := B3.out.trans (h4.mono B3.out.size)
        have t4 := h4.size
        clear h4 kq r4
        go_wp2_with fail
        refine (same_any m v4 (.slice A m.length cp) w4 (by omega) R4.out O4.out.row).mono ?_
        rintro e w5 ⟨rfl, q5, h5⟩
        have hb5 : Below w4.heap.size w4 w5 := by rw [h5]; exact below_drewN (Below.refl _ _) q5
        have O5 : Hid (OwnF w5 w1.heap.size (.slice A m.length cp) m) := O4.out.below hb5
        have R5 : Hid (RowF w5 v4 m) := R4.out.below hb5
        have B5 : Hid (Below w.heap.size w w5) := B4.out.trans (hb5.mono B4.out.size)
        have t5 := hb5.size
        clear hb5 h5 O4 R4 O3
        go_wp2_with fail
        go_loopw [9] (fun jv wq => ∃ j : Nat, jv = .int .i64 (j : Int) ∧ j ≤ m.length ∧ Below w5.heap.size w5 wq) (fun jv _ => m.length - (intOf jv).toNat)
        case atStart => exact ⟨0, rfl, Nat.zero_le _, Below.refl _ _⟩
        case round =>
          obtain ⟨j, rfl, hj, hbq⟩ := hrel
          have HBQ : Hid (Below w5.heap.size w5 wr) := hbq
          have O6 : Hid (OwnF wr w1.heap.size (.slice A m.length cp) m) := O5.out.below hbq
          have R6 : Hid (RowF wr v4 m) := R5.out.below hbq
          have B6 : Hid (Below w.heap.size w wr) := B5.out.trans (hbq.mono B5.out.size)
          have t6 := hbq.size
          clear hbq
          by_cases hq : j < m.length
          · have hq' : (j : Int) < (m.length : Int) := by omega
            obtain ⟨b, o, rfl, hbl, hc⟩ := O6.out.row.hold (by omega)
            obtain ⟨c0, c1⟩ := hc j hq
            obtain ⟨g1, g2⟩ := getF_at m HUM.out j hq
            have kg := qget_any m v4 (m.getD j fd0).1 wr (by omega) R6.out HSZ.out
            rw [g1, g2] at kg
            clear hc g1 g2
            generalize m.getD j fd0 = f at *
            obtain ⟨x, y⟩ := f
            simp only at c0 c1 kg
            go_wp2_with fail
            refine kg.mono ?_
            rintro e w6 ⟨rfl, h6⟩
            have c1' := (h6.cell (p := ⟨b, o + j * 2 + 1, none⟩) (by simpa using hbl)).trans c1
            have HB6 : Hid (Below w5.heap.size w5 w6) := HBQ.out.trans (h6.mono t6)
            clear h6 kg c0 c1
            go_wp2_with fail
            go_roundw
            case rel => exact ⟨j + 1, by go_num, by omega, HB6.out⟩
            case measure => simp [intOf]; omega
          · have hq' : ¬ (j : Int) < (m.length : Int) := by omega
            have hal : Below wr.heap.size wr (wr.alloc (.cells #[] 26)) := Below.alloc (Below.refl _ _) (Nat.le_refl _) _
            have HE : Hid (OwnF (wr.alloc (.cells #[] 26)) wr.heap.size (.slice (some ⟨wr.heap.size, 0, none⟩) 0 0) []) := OwnF.empty wr
            have O7 : Hid (OwnF (wr.alloc (.cells #[] 26)) w1.heap.size (.slice A m.length cp) m) := O6.out.below hal
            have ha1 := hal.size
            have HAL : Hid (Below wr.heap.size wr (wr.alloc (.cells #[] 26))) := hal
            clear hal
            go_wp2_with (at_builtin; (refine wpList_append_any _ rfl _ _ 23 rfl wr.heap.size 26 i5 (.agg #[.string ⟨#[]⟩, .string ⟨#[]⟩]) 2 32 Tryd.underlying23 hi hz0 hz1 hz2 rfl (by decide) (.slice (some ⟨wr.heap.size, 0, none⟩) 0 0) 0 [] rfl ?ownA A m.length cp (cellsF m) rfl ?srcA ?c3A ?c4A ?c5A ?_))
            case ownA => exact HE.out
            case srcA => exact O7.out.src
            case c3A => unfold maxLen; omega
            case c4A => omega
            try (case c5A => first | omega | (simp; omega))
            intro v6 w6 hown6 hgrow6 hat6
            have hat9 : v6.ownBlock = (Value.slice (some ⟨wr.heap.size, 0, none⟩) 0 0).ownBlock ∨ v6.ownBlock = some (wr.alloc (.cells #[] 26)).heap.size := by
              rcases hat6 with h | h
              · exact .inl h
              · exact .inr (by rw [h, size_alloc10])
            have b6 := HAL.out.trans (below_grow HE.out hgrow6 hat9 ha1)
            have P6 : Hid (OwnF w6 wr.heap.size v6 m) := by
              show OwnF _ _ _ _
              unfold OwnF
              simpa using hown6
            have O8 : Hid (OwnF w6 w1.heap.size (.slice A m.length cp) m) := O6.out.below b6
            have B8 : Hid (Below w.heap.size w w6) := B6.out.trans (b6.mono B6.out.size)
            have t8 := b6.size
            obtain ⟨A6, c6, rfl, hc6, _⟩ := P6.out.shape
            clear hown6 hgrow6 hat6 hat9 b6 HE O7 HAL O6 R6
            go_wp2_with (at_builtin; refine wpList_append_any _ rfl _ _ 23 rfl wr.heap.size 26 i5 (.agg #[.string ⟨#[]⟩, .string ⟨#[]⟩]) 2 32 Tryd.underlying23 hi hz0 hz1 hz2 rfl (by decide) (.slice A6 m.length c6) m.length (cellsF m) rfl ?ownAz A m.length cp (cellsF m) rfl ?srcAz ?c3Az ?c4Az ?c5Az ?_)
            case ownAz => exact P6.out
            case srcAz => exact O8.out.src
            case c3Az => unfold maxLen; omega
            case c4Az => omega
            try (case c5Az => exact t8)
            intro v7 w7 hown7 hgrow7 hat7
            have b7 := below_grow P6.out hgrow7 hat7 t8
            have P7 : Hid (RowF w7 v7 (m ++ m)) := by
              have : OwnF w7 wr.heap.size v7 (m ++ m) := by
                unfold OwnF
                rw [cellsF_app, List.length_append]; exact hown7
              exact this.row
            have B9 : Hid (Below w.heap.size w w7) := B8.out.trans (b7.mono B6.out.size)
            clear hown7 hgrow7 hat7 b7
            have hsp := sumF_app m m
            have hpl2 := (prL_len (m ++ m)).1
            rw [← prS_size] at hpl2
            have hll : (m ++ m).length = m.length + m.length := List.length_append
            have kp2 := qprint_at HT.out (m ++ m) v7 (by omega) (by omega) (prS (m ++ m)) rfl w7 P7.out B9.out
            have kq2 := fun W hW => qparse_at HT.out (prS (m ++ m)) (by omega) _ _ (par_two HUM.out (by omega)) W hW
            generalize prS (m ++ m) = pm2 at *
            clear hsp hll P7
            by_cases hm0 : m.length = 0
            · rw [if_pos hm0] at kq2
              have hm0' : (m.length : Int) = 0 := by omega
              clear hm0
              go_wp2_with fail
              refine kp2.mono ?_
              rintro e w8 ⟨rfl, h8⟩
              have B10 : Hid (Below w.heap.size w w8) := B9.out.trans (h8.mono B9.out.size)
              clear h8 kp2
              go_wp2_with fail
              refine (kq2 w8 B10.out).mono ?_
              rintro e w9 ⟨v9, rfl, _, _, h9⟩
              have B11 : Hid (Below w.heap.size w w9) := B10.out.trans (h9.mono B10.out.size)
              clear h9 kq2
              go_wp2_with fail
              go_ret
              exact ⟨rfl, B11.out⟩
            · rw [if_neg hm0] at kq2
              have hm0' : ((m.length : Int) == 0) = false := beq_eq_false_iff_ne.2 (by omega)
              clear hm0
              go_wp2_with fail
              refine kp2.mono ?_
              rintro e w8 ⟨rfl, h8⟩
              have B10 : Hid (Below w.heap.size w w8) := B9.out.trans (h8.mono B9.out.size)
              clear h8 kp2
              go_wp2_with fail
              refine (kq2 w8 B10.out).mono ?_
              rintro e w9 ⟨v9, rfl, _, _, h9⟩
              have B11 : Hid (Below w.heap.size w w9) := B10.out.trans (h9.mono B10.out.size)
              clear h9 kq2
              go_wp2_with fail
              go_ret
              exact ⟨rfl, B11.out⟩
      · have hp1' : ¬ (i : Int) < (m0.length : Int) := by omega
        have hp2' : True := trivial
        clear hp1 HP
        have HUM : Hid (Unl m) := HN.out.unl HU.out
        generalize hn0 : m0.length = n0 at *
        have hmm := HMM.out
        subst hmm
        clear hn0 HMM HN HU HS0 HO
        have hsum := HS.out.sum
        have hsz : ∀ f ∈ m, f.2.size ≤ 1000000 := fun f hf => by have := (HS.out f hf).2; omega
        have HSZ : Hid (∀ f ∈ m, f.2.size ≤ 1000000) := hsz
        have HBW : Hid (Below w.heap.size w wr) := HB1.out.trans (HB.out.mono s1)
        have hpl := (prL_len m).1
        rw [← prS_size] at hpl
        have kp := qprint_at HT.out m (.slice A m.length cp) (by omega) (by omega) (prS m) rfl wr HM.out.row HBW.out
        have kq := fun W hW => qparse_at HT.out (prS m) (by omega) 0 m (par_pr HUM.out (by omega)) W hW
        generalize prS m = pm at *
        clear hsz
        go_wp2_with fail
        refine kp.mono ?_
        rintro e w3 ⟨rfl, h3⟩
        have O3 : Hid (OwnF w3 w1.heap.size (.slice A m.length cp) m) := HM.out.below h3
        have B3 : Hid (Below w.heap.size w w3) := HBW.out.trans (h3.mono HBW.out.size)
        have t3 := h3.size
        clear h3 kp
        go_wp2_with fail
        refine (kq w3 B3.out).mono ?_
        rintro e w4 ⟨v4, rfl, r4, _, h4⟩
        have O4 : Hid (OwnF w4 w1.heap.size (.slice A m.length cp) m) := O3.out.below h4
        have R4 : Hid (RowF w4 v4 m) := r4
        have B4 : Hid (Below w.heap.size w w4) := B3.out.trans (h4.mono B3.out.size)
        have t4 := h4.size
        clear h4 kq r4
        go_wp2_with fail
        refine (same_any m v4 (.slice A m.length cp) w4 (by omega) R4.out O4.out.row).mono ?_
        rintro e w5 ⟨rfl, q5, h5⟩
        have hb5 : Below w4.heap.size w4 w5 := by rw [h5]; exact below_drewN (Below.refl _ _) q5
        have O5 : Hid (OwnF w5 w1.heap.size (.slice A m.length cp) m) := O4.out.below hb5
        have R5 : Hid (RowF w5 v4 m) := R4.out.below hb5
        have B5 : Hid (Below w.heap.size w w5) := B4.out.trans (hb5.mono B4.out.size)
        have t5 := hb5.size
        clear hb5 h5 O4 R4 O3
        go_wp2_with fail
        go_loopw [9] (fun jv wq => ∃ j : Nat, jv = .int .i64 (j : Int) ∧ j ≤ m.length ∧ Below w5.heap.size w5 wq) (fun jv _ => m.length - (intOf jv).toNat)
        case atStart => exact ⟨0, rfl, Nat.zero_le _, Below.refl _ _⟩
        case round =>
          obtain ⟨j, rfl, hj, hbq⟩ := hrel
          have HBQ : Hid (Below w5.heap.size w5 wr) := hbq
          have O6 : Hid (OwnF wr w1.heap.size (.slice A m.length cp) m) := O5.out.below hbq
          have R6 : Hid (RowF wr v4 m) := R5.out.below hbq
          have B6 : Hid (Below w.heap.size w wr) := B5.out.trans (hbq.mono B5.out.size)
          have t6 := hbq.size
          clear hbq
          by_cases hq : j < m.length
          · have hq' : (j : Int) < (m.length : Int) := by omega
            obtain ⟨b, o, rfl, hbl, hc⟩ := O6.out.row.hold (by omega)
            obtain ⟨c0, c1⟩ := hc j hq
            obtain ⟨g1, g2⟩ := getF_at m HUM.out j hq
            have kg := qget_any m v4 (m.getD j fd0).1 wr (by omega) R6.out HSZ.out
            rw [g1, g2] at kg
            clear hc g1 g2
            generalize m.getD j fd0 = f at *
            obtain ⟨x, y⟩ := f
            simp only at c0 c1 kg
            go_wp2_with fail
            refine kg.mono ?_
            rintro e w6 ⟨rfl, h6⟩
            have c1' := (h6.cell (p := ⟨b, o + j * 2 + 1, none⟩) (by simpa using hbl)).trans c1
            have HB6 : Hid (Below w5.heap.size w5 w6) := HBQ.out.trans (h6.mono t6)
            clear h6 kg c0 c1
            go_wp2_with fail
            go_roundw
            case rel => exact ⟨j + 1, by go_num, by omega, HB6.out⟩
            case measure => simp [intOf]; omega
          · have hq' : ¬ (j : Int) < (m.length : Int) := by omega
            have hal : Below wr.heap.size wr (wr.alloc (.cells #[] 26)) := Below.alloc (Below.refl _ _) (Nat.le_refl _) _
            have HE : Hid (OwnF (wr.alloc (.cells #[] 26)) wr.heap.size (.slice (some ⟨wr.heap.size, 0, none⟩) 0 0) []) := OwnF.empty wr
            have O7 : Hid (OwnF (wr.alloc (.cells #[] 26)) w1.heap.size (.slice A m.length cp) m) := O6.out.below hal
            have ha1 := hal.size
            have HAL : Hid (Below wr.heap.size wr (wr.alloc (.cells #[] 26))) := hal
            clear hal
            go_wp2_with (at_builtin; (refine wpList_append_any _ rfl _ _ 23 rfl wr.heap.size 26 i5 (.agg #[.string ⟨#[]⟩, .string ⟨#[]⟩]) 2 32 Tryd.underlying23 hi hz0 hz1 hz2 rfl (by decide) (.slice (some ⟨wr.heap.size, 0, none⟩) 0 0) 0 [] rfl ?ownB A m.length cp (cellsF m) rfl ?srcB ?c3B ?c4B ?c5B ?_))
            case ownB => exact HE.out
            case srcB => exact O7.out.src
            case c3B => unfold maxLen; omega
            case c4B => omega
            try (case c5B => first | omega | (simp; omega))
            intro v6 w6 hown6 hgrow6 hat6
            have hat9 : v6.ownBlock = (Value.slice (some ⟨wr.heap.size, 0, none⟩) 0 0).ownBlock ∨ v6.ownBlock = some (wr.alloc (.cells #[] 26)).heap.size := by
              rcases hat6 with h | h
              · exact .inl h
              · exact .inr (by rw [h, size_alloc10])
            have b6 := HAL.out.trans (below_grow HE.out hgrow6 hat9 ha1)
            have P6 : Hid (OwnF w6 wr.heap.size v6 m) := by
              show OwnF _ _ _ _
              unfold OwnF
              simpa using hown6
            have O8 : Hid (OwnF w6 w1.heap.size (.slice A m.length cp) m) := O6.out.below b6
            have B8 : Hid (Below w.heap.size w w6) := B6.out.trans (b6.mono B6.out.size)
            have t8 := b6.size
            obtain ⟨A6, c6, rfl, hc6, _⟩ := P6.out.shape
            clear hown6 hgrow6 hat6 hat9 b6 HE O7 HAL O6 R6
            go_wp2_with (at_builtin; refine wpList_append_any _ rfl _ _ 23 rfl wr.heap.size 26 i5 (.agg #[.string ⟨#[]⟩, .string ⟨#[]⟩]) 2 32 Tryd.underlying23 hi hz0 hz1 hz2 rfl (by decide) (.slice A6 m.length c6) m.length (cellsF m) rfl ?ownBz A m.length cp (cellsF m) rfl ?srcBz ?c3Bz ?c4Bz ?c5Bz ?_)
            case ownBz => exact P6.out
            case srcBz => exact O8.out.src
            case c3Bz => unfold maxLen; omega
            case c4Bz => omega
            try (case c5Bz => exact t8)
            intro v7 w7 hown7 hgrow7 hat7
            have b7 := below_grow P6.out hgrow7 hat7 t8
            have P7 : Hid (RowF w7 v7 (m ++ m)) := by
              have : OwnF w7 wr.heap.size v7 (m ++ m) := by
                unfold OwnF
                rw [cellsF_app, List.length_append]; exact hown7
              exact this.row
            have B9 : Hid (Below w.heap.size w w7) := B8.out.trans (b7.mono B6.out.size)
            clear hown7 hgrow7 hat7 b7
            have hsp := sumF_app m m
            have hpl2 := (prL_len (m ++ m)).1
            rw [← prS_size] at hpl2
            have hll : (m ++ m).length = m.length + m.length := List.length_append
            have kp2 := qprint_at HT.out (m ++ m) v7 (by omega) (by omega) (prS (m ++ m)) rfl w7 P7.out B9.out
            have kq2 := fun W hW => qparse_at HT.out (prS (m ++ m)) (by omega) _ _ (par_two HUM.out (by omega)) W hW
            generalize prS (m ++ m) = pm2 at *
            clear hsp hll P7
            by_cases hm0 : m.length = 0
            · rw [if_pos hm0] at kq2
              have hm0' : (m.length : Int) = 0 := by omega
              clear hm0
              go_wp2_with fail
              refine kp2.mono ?_
              rintro e w8 ⟨rfl, h8⟩
              have B10 : Hid (Below w.heap.size w w8) := B9.out.trans (h8.mono B9.out.size)
              clear h8 kp2
              go_wp2_with fail
              refine (kq2 w8 B10.out).mono ?_
              rintro e w9 ⟨v9, rfl, _, _, h9⟩
              have B11 : Hid (Below w.heap.size w w9) := B10.out.trans (h9.mono B10.out.size)
              clear h9 kq2
              go_wp2_with fail
              go_ret
              exact ⟨rfl, B11.out⟩
            · rw [if_neg hm0] at kq2
              have hm0' : ((m.length : Int) == 0) = false := beq_eq_false_iff_ne.2 (by omega)
              clear hm0
              go_wp2_with fail
              refine kp2.mono ?_
              rintro e w8 ⟨rfl, h8⟩
              have B10 : Hid (Below w.heap.size w w8) := B9.out.trans (h8.mono B9.out.size)
              clear h8 kp2
              go_wp2_with fail
              refine (kq2 w8 B10.out).mono ?_
              rintro e w9 ⟨v9, rfl, _, _, h9⟩
              have B11 : Hid (Below w.heap.size w w9) := B10.out.trans (h9.mono B10.out.size)
              clear h9 kq2
              go_wp2_with fail
              go_ret
              exact ⟨rfl, B11.out⟩

end Go.Proofs.YtdjkmcielbppaaaDoor
