import Derived.Test.YtldpnhlifgkmiaaDoorW17
namespace Go.Proofs.YtldpnhlifgkmiaaDoor
open Go.RowKit Go.Sort Go.Shelf
set_option linter.unusedVariables false
set_option linter.unusedSimpArgs false

theorem kd0_ok (w : World) (S : Nat → Prop) : (⟨0, 0, ⟨2, 0, ByteArray.empty⟩, .nil, none, 0, 0, 0⟩ : Kd).Ok w S ∧ (⟨0, 0, ⟨2, 0, ByteArray.empty⟩, .nil, none, 0, 0, 0⟩ : Kd).Ar :=
  ⟨⟨⟨by simp, by simp, by simp, by simp, by decide⟩, ⟨Nat.zero_le _, Nat.zero_le _⟩, .inl rfl, trivial⟩, by decide, trivial⟩

set_option maxHeartbeats 1000000 in
theorem sortFunc_none (w : World) (g cap : Nat) (hg : g < w.heap.size) :
    Calls Tryd.prog 44 #[.slice (some ⟨g, 0, none⟩) 0 cap, .func (.func 45) #[] #[]] w fun e w' =>
      e = .returned (.tuple #[]) ∧ Only g w w' := by
  have hH : HoldsK (fun _ : Unit => (⟨0, 0, ⟨2, 0, ByteArray.empty⟩, .nil, none, 0, 0, 0⟩ : Kd).cells) 4 w g 0 #[] := by intro j hj; simp at hj
  have hcmp := cmp_row (fun _ : Unit => (⟨0, 0, ⟨2, 0, ByteArray.empty⟩, .nil, none, 0, 0, 0⟩ : Kd)) w g 0 hg (fun _ => kd0_ok _ _)
  have h := AnyQ.slices_SortFunc (ρ := Tryd.sortK_ren) Tryd.sortK 4 isAgg_term sizeOf_term (fun _ : Unit => (⟨0, 0, ⟨2, 0, ByteArray.empty⟩, .nil, none, 0, 0, 0⟩ : Kd).cells) (fun _ => rfl) (fun x v hv => by simp [Kd.cells] at hv; rcases hv with rfl | rfl | rfl | rfl <;> rfl)
    (fun x y => ordK (⟨0, 0, ⟨2, 0, ByteArray.empty⟩, .nil, none, 0, 0, 0⟩ : Kd) (⟨0, 0, ⟨2, 0, ByteArray.empty⟩, .nil, none, 0, 0, 0⟩ : Kd)) (swo_ord (fun _ : Unit => (⟨0, 0, ⟨2, 0, ByteArray.empty⟩, .nil, none, 0, 0, 0⟩ : Kd))) 45 #[] g 0 cap #[] w
    (enters_of Tryd.func45 (by kernel_rfl) rfl) hcmp hH hg (by simp)
  refine Calls.mono h ?_
  rintro e w' ⟨rfl, d', m, os, _, _, hw⟩
  refine ⟨rfl, ?_⟩
  rw [hw]
  refine ⟨rfl, rfl, rfl, by simp [sortWorldK, putRowK, Sort.putRow, Sort.mapBlock, Sort.ahead], fun k hk' hne => ?_⟩
  unfold sortWorldK
  rw [Sort.heap_grow_old _ _ (by simpa [putRowK, Sort.putRow, Sort.mapBlock, Sort.ahead] using hk')]
  simp [putRowK, Sort.putRow, Sort.mapBlock, Sort.ahead, Array.getElem?_modify, Ne.symm hne]

theorem sortFunc_all (w : World) (g cap : Nat) (ks : List Kd) (h : RowAt w g ks) (hsz : ks.length < 4611686018427387904) :
    Calls Tryd.prog 44 #[.slice (some ⟨g, 0, none⟩) ks.length cap, .func (.func 45) #[] #[]] w fun e w' =>
      e = .returned (.tuple #[]) ∧ ∃ js : List Kd, js.Perm ks ∧ js.Pairwise (fun j k => 0 ≤ ordK k j) ∧ RowAt w' g js ∧ Only g w w' := by
  cases ks with
  | nil =>
    refine (sortFunc_none w g cap h.1).mono ?_
    rintro e w' ⟨rfl, ho⟩
    exact ⟨rfl, [], List.Perm.refl _, List.Pairwise.nil, ⟨Nat.lt_of_lt_of_le h.1 ho.size, by simp, by simp⟩, ho⟩
  | cons k r => exact sortFunc_any w g cap (k :: r) h (by simp) hsz

/-- All terms of a row are terms. -/
def MayF (f : Fo) : Prop := AllF (fun a l => may a l = true) f

/-- The same terms, wherever they lie. -/
def sameK (j k : Kd) : Prop := j.x = k.x ∧ j.y = k.y ∧ j.a = k.a ∧ j.l = k.l

set_option maxRecDepth 20000 in
set_option maxHeartbeats 4000000 in
theorem sort_any (w : World) (f : Fo) (LA : Option Addr) (cap lb lo B : Nat) (hB : B ≤ w.heap.size) (hA : flen f = 0 ∨ LA = some ⟨lb, lo, none⟩) (hr : RepF w B f lb lo) (hn : flen f ≤ 1000) (hm : MayF f) :
    Calls Tryd.prog 30 #[.slice LA (flen f) cap] w fun e w' =>
      ∃ (ks L M : List Kd) (g c : Nat), f = foOf ks .nil ∧ SortOf ks L ∧ M.length = L.length ∧ (∀ t, sameK (M.getD t kd0) (L.getD t kd0)) ∧ e = .returned (.slice (some ⟨g, 0, none⟩) M.length c) ∧ RowAt w' g M ∧ w.heap.size ≤ g ∧ Below w.heap.size w w' := by
  have HA : Hid (flen f = 0 ∨ LA = some ⟨lb, lo, none⟩) := hA
  clear hA
  obtain ⟨i, hi, hz0, hz1, hz2⟩ := info_get Tryd.infoTerm
  go_enter Tryd.func30, Tryd.ntmps30
  go_wp2_with (at_make; refine wpList_make_own _ rfl _ _ 24 rfl w.heap.size 29 i (.agg #[.int .i64 0, .int .i64 0, .string ⟨#[]⟩, .slice none 0 0]) 4 Tryd.underlying24 hi hz0 hz1 _ _ _ (flen f) rfl rfl (by omega) ?b2 ?b3 (Nat.le_refl _) ?_)
  case b2 => rw [hz2]; omega
  case b3 => unfold maxLen; omega
  intro w0 hown0 hgrow0
  have hbl0 : Below w.heap.size w w0 := Below.grown (Below.refl _ _) hgrow0 (Nat.le_refl _) (fun k hk => by cases hk)
  clear hgrow0
  go_wp2_with fail
  go_loopw [3, 12] (fun kv iv wr => ∃ (n : Nat) (g : Fo) (ks : List Kd) (gb c : Nat), iv = .int .i64 n ∧ kv = .slice (some ⟨gb, 0, none⟩) n c ∧ n + flen g = flen f ∧ n = ks.length ∧ f = foOf ks g ∧ MayF g ∧ RepF wr B g lb (lo + n * 4) ∧ Below w.heap.size w wr ∧
      wr.ownsRow w.heap.size 29 4 (.slice (some ⟨gb, 0, none⟩) n c) n (rowOf ks) ∧ ∀ k ∈ ks, k.Ok wr (fun b => b < B) ∧ k.Ar) (fun _ iv _ => flen f - (intOf iv).toNat)
  case atStart =>
    refine ⟨0, f, [], w.heap.size, flen f, rfl, rfl, by simp, rfl, rfl, hm, ?_, hbl0, hown0, by simp⟩
    rw [show lo + 0 * 4 = lo from by omega]
    exact hr.below (hbl0.mono hB)
  case round =>
    obtain ⟨n, g, ks, gb, c, rfl, rfl, hng, hnk, hf, hmg, hrg, hbl, hown, hks⟩ := hrel
    have Hf : Hid (f = foOf ks g) := hf
    have Hnk : Hid (n = ks.length) := hnk
    clear hf hnk hown0 hbl0
    have hvk := hown.lt gb rfl
    cases g with
    | nil =>
      simp only [flen] at hng
      have hcap : n ≤ c := by rcases hown.2 with ⟨h1, _⟩ | ⟨g', c', cur, h1, h2, h3, h4, _⟩; cases h1; injection h1 with h5 h6 h7; omega
      have hrow : RowAt wr gb ks := by
        refine ⟨hvk.2, fun t ht => ⟨hown.cellAt t (by have := Hnk.out; omega), hown.frozenAt t⟩, fun k hk => ⟨(hks k hk).1.keep (fun b hb => ⟨by have := hbl.size; omega, by omega⟩) (fun _ _ _ => rfl), (hks k hk).2⟩⟩
      obtain rfl := Hnk.out
      clear Hnk hown hks hrg hmg
      have Hrow : Hid (RowAt wr gb ks) := hrow
      clear hrow
      go_wp2_with fail
      refine (sortFunc_all wr gb c ks Hrow.out (by omega)).mono ?_
      rintro e w1 ⟨rfl, js, hperm, hsorted, hrow1, ho1⟩
      have hjl : js.length = ks.length := hperm.length_eq
      have Hj : Hid (js.Perm ks ∧ js.Pairwise (fun j k => 0 ≤ ordK k j) ∧ RowAt w1 gb js ∧ js.length = ks.length) := ⟨hperm, hsorted, hrow1, hjl⟩
      clear hperm hsorted hrow1
      rw [← hjl]
      clear hjl
      go_wp2_with fail
      have hJ := Hj.out
      refine (compactFunc_any w1 gb c js hJ.2.2.1 (by omega) (by omega)).mono ?_
      clear hJ
      rintro e w2 ⟨rfl, hrow2, ho2⟩
      have hso : SortOf ks (keptTo js js.length) := sortOf_kept Hj.out.1 Hj.out.2.1
      have hLl : (keptTo js js.length).length ≤ 1000 := by have := keptTo_le js js.length; have := Hj.out.2.2.2; omega
      generalize keptTo js js.length = L at *
      have Hso : Hid (SortOf ks L) := hso
      have hO2 : Only gb wr w2 := ho1.trans ho2
      clear hso ho1 ho2
      go_wp2_with fail
      obtain ⟨wo, rfl⟩ : ∃ wo : World, wo = wr := ⟨_, rfl⟩
      go_loopw [29] (fun iv wr => ∃ (m : Nat) (M : List Kd), iv = .int .i64 m ∧ m ≤ L.length ∧ M.length = L.length ∧ (∀ t, sameK (M.getD t kd0) (L.getD t kd0)) ∧ RowAt wr gb M ∧ Only gb wo wr) (fun iv _ => L.length - (intOf iv).toNat)
      case atStart => exact ⟨0, L, rfl, by omega, rfl, fun t => ⟨rfl, rfl, rfl, rfl⟩, hrow2, hO2⟩
      case round =>
        obtain ⟨m, M, rfl, hmL, hML, hsame, hrowM, hoM⟩ := hrel
        have HML : Hid (M.length = L.length) := hML
        clear hML
        by_cases hlt : m < L.length
        · obtain ⟨e0, e1, e2, e3⟩ := hrowM.at m (by rw [HML.out]; exact hlt)
          have hok := hrowM.ok m (by rw [HML.out]; exact hlt)
          have hgM := hrowM.1
          have Hrow3 : Hid (RowAt wr gb M) := hrowM
          have hsm := hsame m
          have Hsame : Hid (∀ t, sameK (M.getD t kd0) (L.getD t kd0)) := hsame
          clear hrowM hsame
          generalize hx0 : M.getD m kd0 = x at *
          have Hx : Hid (M.getD m kd0 = x) := hx0
          clear hx0
          have hi1 : (m : Int) < (L.length : Int) := by omega
          go_wp2_with fail
          refine (fresh_any x.a x.l _ wr.heap.size wr ⟨hok.1.1, _, _, _, _, rfl, hok.1.2.1, hok.1.2.2.1, RepG.toF (fun _ h => h.1) hok.1.2.2.2⟩ (Nat.le_refl _) hok.2.1 hok.2.2).mono ?_
          rintro e w3 ⟨u, rfl, ho3, hfa, A3, cap3, b3, o3, rfl, hn3, hA3, hl3⟩
          have HA3 : Hid (flen x.l = 0 ∨ A3 = some ⟨b3, o3, none⟩) := hA3
          clear hA3
          have hr3 := Hrow3.out.below ho3
          obtain ⟨s0, s1, s2, s3⟩ := hr3.at m (by rw [HML.out]; exact hlt)
          have f0 := (hr3.2.1 (m * 4) (by rw [HML.out]; omega)).2
          have f1 := (hr3.2.1 (m * 4 + 1) (by rw [HML.out]; omega)).2
          have f2 := (hr3.2.1 (m * 4 + 2) (by rw [HML.out]; omega)).2
          have f3 := (hr3.2.1 (m * 4 + 3) (by rw [HML.out]; omega)).2
          have Hr3 : Hid (RowAt w3 gb M) := hr3
          clear hr3
          rw [Hx.out] at s0 s1 s2 s3
          go_wp2_with fail
          go_roundw
          case rel =>
            have hml : m < M.length := by rw [HML.out]; exact hlt
            have hsplit : M = M.take m ++ M[m] :: M.drop (m + 1) := by rw [← List.drop_eq_getElem_cons hml, List.take_append_drop]
            have hr4 := Hr3.out
            rw [hsplit] at hr4
            have hput := hr4.put (x := ⟨x.x, x.y, x.a, x.l, A3, cap3, b3, o3⟩) ⟨⟨hfa, hn3, HA3.out, RepG.keep (fun b hb => ⟨hb.2, by omega⟩) (fun _ _ _ => rfl) hl3⟩, hok.2⟩ (m * 4) (by rw [List.length_take, Nat.min_eq_left (by omega)])
            refine ⟨m + 1, M.take m ++ ⟨x.x, x.y, x.a, x.l, A3, cap3, b3, o3⟩ :: M.drop (m + 1), by go_num, hlt, ?_, ?_, hput, ?_⟩
            · rw [← HML.out]; simp; omega
            · intro t
              have := Hsame.out t
              by_cases ht : t = m
              · subst ht
                rw [Hx.out] at this
                have e : (M.take t ++ (⟨x.x, x.y, x.a, x.l, A3, cap3, b3, o3⟩ : Kd) :: M.drop (t + 1)).getD t kd0 = ⟨x.x, x.y, x.a, x.l, A3, cap3, b3, o3⟩ := by
                  rw [List.getD_eq_getElem?_getD, List.getElem?_append_right (by simp; omega), List.length_take, Nat.min_eq_left (by omega)]; simp
                rw [e]; exact this
              · have e : (M.take m ++ (⟨x.x, x.y, x.a, x.l, A3, cap3, b3, o3⟩ : Kd) :: M.drop (m + 1)).getD t kd0 = M.getD t kd0 := by
                  rw [List.getD_eq_getElem?_getD, List.getD_eq_getElem?_getD]
                  congr 1
                  rcases Nat.lt_or_ge t m with h | h
                  · rw [List.getElem?_append_left (by simp; omega), List.getElem?_take_of_lt h]
                  · rw [List.getElem?_append_right (by simp; omega), List.length_take, Nat.min_eq_left (by omega), show t - m = (t - m - 1) + 1 from by omega, List.getElem?_cons_succ, List.getElem?_drop, show m + 1 + (t - m - 1) = t from by omega]
                rw [e]; exact this
            · exact Only.setCell (p := ⟨gb, m * 4 + 3, none⟩) (Only.setCell (p := ⟨gb, m * 4 + 2, none⟩) (Only.setCell (p := ⟨gb, m * 4 + 1, none⟩) (Only.setCell (p := ⟨gb, m * 4, none⟩) (hoM.below ho3) (.inl rfl) _) (.inl rfl) _) (.inl rfl) _) (.inl rfl) _
          case measure => simp [intOf]; omega
        · have hd : decide ((m : Int) < (L.length : Int)) = false := by simp; omega
          have Hsame : Hid (∀ t, sameK (M.getD t kd0) (L.getD t kd0)) := hsame
          clear hsame
          go_wp2_with fail
          go_ret
          exact ⟨ks, L, M, gb, c, Hf.out, Hso.out, HML.out, Hsame.out, by rw [HML.out]; rfl, hrowM, hvk.1, hbl.trans (hoM.toBelow hvk.1 hbl.size)⟩
    | node b1 o1 a1 l1 r1 =>
      obtain ⟨hb1, hf1, e0, e1, e2, ⟨A1, cap1, b2, o2, e3, hn1, hA1, hl1⟩, hr1⟩ := hrg
      obtain ⟨hm1, hmr⟩ := hmg
      simp only [flen] at hng
      obtain rfl : LA = some ⟨lb, lo, none⟩ := by rcases HA.out with h | h; omega; exact h
      have HA1 : Hid (flen l1 = 0 ∨ A1 = some ⟨b2, o2, none⟩) := hA1
      have Hm1 : Hid (may a1 l1 = true) := hm1
      clear hA1
      have hzB : B ≤ wr.heap.size := by have := hbl.size; omega
      go_wp2_with fail
      refine (may_any a1 l1 _ _ ⟨hf1, A1, cap1, b2, o2, rfl, hn1, HA1.out, RepF.keep (w := wr) (by simp; omega) (fun b' o' hb' => World.cell?_alloc_past _ _ _ (by omega)) hl1⟩).mono ?_
      rintro e w1 ⟨rfl, ho1⟩
      obtain ⟨x0, x1, x2, x3, x4⟩ : Box4 w1 wr.heap.size (.int .i64 a1.kind) (.int .i64 a1.n) (.string a1.s) (.slice A1 (flen l1) cap1) := (Box4.new wr _ _ _ _ _).below ho1
      have hbr : Below wr.heap.size wr w1 := Below.trans (Below.alloc (Below.refl _ _) (Nat.le_refl _) _) (ho1.mono (by simp))
      have hown1 := owns_below hown hbr
      have hbw1 := hbl.size
      go_wp2_with (at_builtin; refine wpList_append_lies _ rfl _ _ 24 rfl w.heap.size 29 i (.agg #[.int .i64 0, .int .i64 0, .string ⟨#[]⟩, .slice none 0 0]) 4 56 Tryd.underlying24 hi hz0 hz1 hz2 rfl (by decide) (.slice (some ⟨gb, 0, none⟩) n c) n (rowOf ks) rfl ?own ⟨w1.heap.size, 0, none⟩ 1 1 [.int .i64 a1.kind, .int .i64 a1.n, .string a1.s, .slice A1 (flen l1) cap1] rfl rfl ?c1 ?c2 (by decide) ?c3 ?c4 ?c5 _ rfl ?_)
      case own => exact hown1.alloc _
      case c1 =>
        intro j u hj
        have hj4 : j = 0 ∨ j = 1 ∨ j = 2 ∨ j = 3 := by have := (List.getElem?_eq_some_iff.1 hj).1; simp at this; omega
        rcases hj4 with rfl | rfl | rfl | rfl <;> (simp at hj; subst hj; simp [Addr.add, go_sem])
      case c2 => intro u hu; simp at hu; rcases hu with rfl | rfl | rfl | rfl <;> rfl
      case c3 => unfold maxLen; omega
      case c4 => omega
      case c5 => have := hbr.size; simp; omega
      intro g2 cap4 w2 hown2 hgrow hat hlt
      go_wp2_with fail
      go_roundw
      case rel =>
        have hb1s := hbr.size
        have hg1s := hgrow.size
        simp only [World.heap_size_alloc'] at hg1s hat
        have hstep : ∀ q, q < w.heap.size → w2.heap[q]? = wr.heap[q]? := fun q hq => by
          rw [hgrow.block q (by simp; omega) (fun e => by simp [Value.ownBlock] at e; omega), Below.heap_alloc _ _ _ (by omega)]; exact hbr.block q (by omega)
        refine ⟨n + 1, r1, ks ++ [⟨b1, o1, a1, l1, A1, cap1, b2, o2⟩], g2, cap4, by go_num, rfl, by omega, by rw [List.length_append]; have := Hnk.out; simp; omega, by rw [foOf_append]; exact Hf.out, hmr, ?_, ?_, by rw [rowOf_append]; exact hown2, ?_⟩
        · rw [show lo + (n + 1) * 4 = lo + n * 4 + 4 from by omega]
          exact RepF.keep (Nat.le_refl _) (fun q j hq => World.cell?_of_block (hstep q (by omega))) hr1
        · exact hbl.trans ⟨hgrow.os.trans hbr.os, hgrow.tape.trans hbr.tape, hgrow.output.trans hbr.output, by omega, fun q hq => hstep q (by omega)⟩
        · intro k hk
          rcases List.mem_append.1 hk with hk | hk
          · exact ⟨(hks k hk).1.keep (fun _ h => h) (fun q j hq => World.cell?_of_block (hstep q (by omega))), (hks k hk).2⟩
          · simp at hk; subst hk
            exact ⟨⟨hf1, hn1, HA1.out, RepG.keep (fun _ h => h) (fun q j hq => World.cell?_of_block (hstep q (by omega))) hl1.toG⟩, may_ar a1 l1 Hm1.out⟩
      case measure => simp [intOf]; omega

end Go.Proofs.YtldpnhlifgkmiaaDoor
