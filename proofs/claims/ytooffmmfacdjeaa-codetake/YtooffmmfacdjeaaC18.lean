import Derived.Test.YtooffmmfacdjeaaC17
namespace Go.Proofs.Ytooffmmfacdjeaa
open Go.RowKit
set_option linter.unusedVariables false
set_option linter.unusedSimpArgs false

set_option maxRecDepth 100000 in
set_option maxHeartbeats 4000000 in
theorem rnode_kids3 (f : Nat) (hf : f ≤ 15) (ih : RNodeOk f) (w : World) (rb : Nat) (A : Option Addr) (cap : Nat) (bs : List UInt8) (at' k B : Nat) (dz : Int) (hdz : dz = 17 - ((f + 1 : Nat) : Int)) (hR : RfSt w rb A cap bs (at' : Int) (64 - (k : Int)) 0) (hy : ByAt w B A bs) (hB : B ≤ rb) (hk : k ≤ 64) (ha : at' ≤ bs.length) (hl : bs.length ≤ 100000) (hlc : bs.length ≤ cap) (hcm : cap ≤ maxLen)
    (x : UInt8) (zs : List UInt8) (hxz : bs.drop at' = x :: zs) (hx : x.toNat = 3) :
    Calls Try.prog 37 #[.pointer (some ⟨rb, 0, none⟩), .int .i64 dz] w fun e w' => RfEnd w rb A cap bs (tk (f + 1) k (bs.drop at')) e w' := by
  obtain ⟨i5, hi, hz0, hz1, hz2⟩ := info_has Try.infoTerm2
  by_cases hk1 : 64 ≤ k
  · exact rnode_big (f + 1) w rb A cap bs at' k dz hR (by omega) hk (.inl hk1) _ (by cases bs.drop at' <;> rw [tk, if_pos (by omega)])
  have HDZ : Hid (dz = 16 - (f : Int)) := by show dz = _; omega
  have hd0 : 0 ≤ dz := by omega
  have hd1 : dz ≤ 16 := by omega
  clear hdz
  have h0 := hR.lt
  have HN1 : Hid (NdSt w (((w.setCell ⟨rb, 2, none⟩ (.int .i64 (64 - (k : Int) - 1))).alloc (.cells #[.int .i64 0, .int .i64 0, .string ⟨#[]⟩, .slice none 0 0] 30)).alloc (.cells #[.int .i64 0, .int .i64 0, .string ⟨#[]⟩, .slice none 0 0] 30)) rb A cap bs (at' : Int) (64 - (k : Int) - 1) 0 0 0 ⟨#[]⟩ (.slice none 0 0)) := NdSt.first w hR _
  have HY : Hid (∀ w', Only rb w w' → ByAt w' B A bs) := fun w' ho => hy.keep (Nat.le_refl _) (fun b o hb => ho.cell (by simp; omega) (by simp; omega))
  obtain ⟨_, c0, c1, c2, c3, g1, g2, g3⟩ := hR
  have hk2 : decide (64 - (k : Int) < 1) = false := by simp; omega
  have hk3 : decide (16 < dz) = false := by simp; omega
  go_enter Try.func37, Try.ntmps37
  go_wp2_with fail
  refine (rfnum_any _ rb A cap bs at' 1 B (64 - (k : Int) - 1) 1 rfl HN1.out.st (HY.out _ HN1.out.only) hB (by omega) (by omega) hl (by omega)).mono ?_
  rintro e w2 ⟨v, er, rfl, ho2, hst2, hcase⟩
  have hN2 := HN1.out.move h0 ho2 hst2
  have HN2 : Hid (NdSt w w2 rb A cap bs ((at' + 1 : Nat) : Int) (64 - (k : Int) - 1) (er : Int) 0 0 ⟨#[]⟩ (.slice none 0 0)) := hN2
  clear HN1 hst2 ho2 c0 c1 c2 c3 g1 g2 g3 hy
  have hne : ¬ bs.length < at' + 1 := fun hq => by have := congrArg List.length hxz; simp at this; omega
  obtain ⟨hs, hv, rfl⟩ : at' + 1 ≤ bs.length ∧ v = unBe ((bs.drop at').take 1) ∧ er = 0 := by rcases hcase with ⟨h1, _⟩ | h; exact absurd h1 hne; exact h
  have hzs : bs.drop (at' + 1) = zs := by rw [← List.drop_drop, hxz]; rfl
  have hv2 : v = x.toNat := by rw [hv, hxz]; simp [unBe]
  have HK0 : Hid (tk (f + 1) k (bs.drop at') = tkH (tk f) x.toNat (k + 1) zs) := by show _ = _; rw [hxz, tk, if_neg (by omega)]
  have Hzs : Hid (bs.drop (at' + 1) = zs) := hzs
  subst hv2
  clear hv hzs hxz hcase hne
  generalize x.toNat = h at *
  have HN3 : Hid (NdSt w (w2.setCell ⟨w.heap.size + 1, 0, none⟩ (.int .i64 (h : Int))) rb A cap bs ((at' + 1 : Nat) : Int) (64 - (k : Int) - 1) 0 (h : Int) 0 ⟨#[]⟩ (.slice none 0 0)) := HN2.out.kind h0 _
  obtain ⟨_, ⟨_, c0, c1, c2, c3, g1, g2, g3⟩, t0, t1, t2, t3, tf, _, _, _, _, _, sz⟩ := hN2
  have tf0 := tf 0
  clear tf HN2
  subst hx
  · have HK : Hid (tk (f + 1) k (bs.drop at') = aboveR (tk f) 3 1 (k + 1) zs) := by show _ = _; rw [HK0.out, tkH, if_neg (by decide), if_neg (by decide), if_pos (by decide)]; rfl
    go_wp2_with fail
    clear c0 c1 c2 c3 g1 g2 g3 t0 t1 t2 t3 tf0
    go_loopw [8] (fun iv wr => RkRel w f rb A cap bs 3 1 k zs iv wr) (fun iv _ => 1 - (intOf iv).toNat)
    case atStart =>
      refine .inl ⟨[], k + 1, at' + 1, .slice none 0 0, rfl, by simp, by omega, by omega, ?_, ?_, World.ownsRow_nil _ _ _ _, by simp⟩
      · rw [Hzs.out]; show kidsG (tk f) 1 (k + 1) zs = addK [] (kidsG (tk f) (1 - 0) (k + 1) zs)
        rw [Nat.sub_zero]; cases kidsG (tk f) 1 (k + 1) zs <;> rfl
      · have := HN3.out; rwa [show (64 : Int) - (k : Int) - 1 = 64 - ((k + 1 : Nat) : Int) from by omega] at this
    case round =>
      clear HN3
      rcases hrel with ⟨ks, k', at2, kv, rfl, hks, hk', hat2, hrun, hN, hown, hoks⟩ | ⟨i, er, at2, left, K, len, cc, rfl, hic, her1, her4, hrun, hN⟩
      · have HRUN : Hid (kidsG (tk f) 1 (k + 1) zs = addK ks (kidsG (tk f) (1 - ks.length) k' (bs.drop at2))) := hrun
        have HN4 : Hid (NdSt w wr rb A cap bs (at2 : Int) (64 - (k' : Int)) 0 3 0 ⟨#[]⟩ kv) := hN
        have HOW : Hid (wr.ownsRow (w.heap.size + 2) 30 4 kv ks.length (rowOf ks)) := hown
        have HKS : Hid (∀ q ∈ ks, q.Ok wr (fun b => w.heap.size + 2 ≤ b ∧ b < wr.heap.size ∧ kv.ownBlock ≠ some b)) := hoks
        obtain ⟨K, cc, rfl⟩ := owns_slice hown
        have hbk := hown.lt
        clear hrun hown hoks
        obtain ⟨_, ⟨_, c0, c1, c2, c3, _, _, _⟩, t0, t1, t2, t3, tf, r0, r1, r2, r3, rf, sz⟩ := hN
        have szr : w.heap.size < wr.heap.size := by omega
        by_cases hlt : ks.length < 1
        · have hlt' : decide ((ks.length : Int) < 1) = true := by simp; omega
          have tf3 := tf 3
          clear tf rf
          have N1 : Hid (Calls Try.prog 37 #[.pointer (some ⟨rb, 0, none⟩), .int .i64 (dz + 1)] wr.drew fun e w' => RfEnd wr.drew rb A cap bs (tk f k' (bs.drop at2)) e w') :=
            ih wr.drew rb A cap bs at2 k' B (dz + 1) (by have := HDZ.out; omega) (HN4.out.st.keep (Below.drew (Below.refl _ _))) (HY.out _ HN4.out.only.drew) hB hk' hat2 hl hlc hcm
          go_wp2_with fail
          clear c0 c1 c2 c3 t0 t1 t2 r0 r1 r2 r3
          refine wp_region_until (S := fun w' => w'.cell? ⟨w.heap.size + 1, 3, none⟩ = some (.slice K ks.length cc)) (j := 7) (by kernel_rfl) ?_
          refine wpAnyU_pure (i := 0) (oi := { dst := some 161, op := Op.fieldAddr 30 (Operand.tmp 5) 3, type := 0, pos := "ref.go:101", after := #[], guard := none }) (v := ?v0) rfl (by kernel_rfl) (by kernel_rfl) (by kernel_rfl) (by decide) (fun _ _ _ h => h) (Or.inl ⟨by rfl, ?y0⟩) (fun _ => t3) ?r0
          case y0 => (intro w _; go_simp <;> with_reducible rfl)
          try simp only [Act.put, List.setIfInBounds_toArray, List.set_cons_zero, List.set_cons_succ]
          refine wpAnyU_pure (i := 2) (oi := { dst := some 163, op := Op.move (Operand.tmp 0), type := 62, pos := "ref.go:101", after := #[], guard := none }) (v := ?v2) rfl (by kernel_rfl) (by kernel_rfl) (by kernel_rfl) (by decide) (fun _ _ _ h => h) (Or.inl ⟨by rfl, ?y2⟩) (fun _ => t3) ?r2
          case y2 => (intro w _; go_simp <;> with_reducible rfl)
          try simp only [Act.put, List.setIfInBounds_toArray, List.set_cons_zero, List.set_cons_succ]
          refine wpAnyU_pure (i := 3) (oi := { dst := some 164, op := Op.move (Operand.tmp 1), type := 3, pos := "ref.go:101", after := #[], guard := none }) (v := ?v3) rfl (by kernel_rfl) (by kernel_rfl) (by kernel_rfl) (by decide) (fun _ _ _ h => h) (Or.inl ⟨by rfl, ?y3⟩) (fun _ => t3) ?r3
          case y3 => (intro w _; go_simp <;> with_reducible rfl)
          try simp only [Act.put, List.setIfInBounds_toArray, List.set_cons_zero, List.set_cons_succ]
          refine wpAnyU_pure (i := 4) (oi := { dst := some 165, op := Op.binOp BinOp.add 3 (Operand.tmp 164) (Operand.const (Value.int IntKind.i64 1)) 3, type := 3, pos := "ref.go:101", after := #[{ on := 3, ground := Ground.data }], guard := none }) (v := ?v4) rfl (by kernel_rfl) (by kernel_rfl) (by kernel_rfl) (by decide) (fun _ _ _ h => h) (Or.inl ⟨by rfl, ?y4⟩) (fun _ => t3) ?r4
          case y4 => (intro w _; go_simp <;> with_reducible rfl)
          try simp only [Act.put, List.setIfInBounds_toArray, List.set_cons_zero, List.set_cons_succ]
          refine wpAnyU_load (i := 1) (oi := { dst := some 162, op := Op.load 24 (Operand.tmp 161), type := 24, pos := "ref.go:101", after := #[{ on := 0, ground := Ground.data }], guard := none }) (oj := { dst := some 168, op := Op.call { callee := Callee.builtin Builtin.append, args := #[Operand.tmp 162, Operand.tmp 167], argTypes := #[24, 24] }, type := 24, pos := "ref.go:101", after := #[{ on := 1, ground := Ground.data }, { on := 6, ground := Ground.data }, { on := 5, ground := Ground.chain }], guard := none }) (v := ?v1) rfl rfl (by kernel_rfl) (by kernel_rfl) (by kernel_rfl) (by decide) (by kernel_rfl) (by kernel_rfl) (fun _ _ _ h => h) (Or.inl ⟨by rfl, ?y1⟩) t3 ?r1
          case y1 => (intro w hSw; (try dsimp only at hSw); go_simp <;> with_reducible rfl)
          try simp only [Act.put, List.setIfInBounds_toArray, List.set_cons_zero, List.set_cons_succ]
          refine wpAnyU_one (i := 5) (o := { dst := some 166, op := Op.call { callee := Callee.value (Operand.func 37), args := #[Operand.tmp 163, Operand.tmp 165], argTypes := #[62, 3] }, type := 30, pos := "ref.go:101", after := #[{ on := 2, ground := Ground.data }, { on := 4, ground := Ground.data }], guard := none }) (by kernel_rfl) rfl (fun K' hK => ?_)
          go_simp
          rw [wrap_in _ (by omega) (by omega)]
          refine (N1.out).mono ?_
          clear N1
          rintro e w5 hE
          obtain ⟨k0, n0, s0, K0, len0, c9, rfl, ho5, hcase⟩ := rf_end_any hE
          have HC : Hid _ := hcase
          clear hE hcase
          have t35 : w5.cell? ⟨w.heap.size + 1, 3, none⟩ = some (.slice K ks.length cc) := (ho5.cell (by show w.heap.size + 1 < wr.heap.size; omega) (by simp; omega)).trans t3
          have tf5 : w5.frozen? ⟨w.heap.size + 1, 3, none⟩ = false := (ho5.frozen (by show w.heap.size + 1 < wr.heap.size; omega) (by simp; omega)).trans tf3
          have sz5 : wr.heap.size ≤ w5.heap.size := ho5.size
          go_wp2_with fail
          refine hK.out _ _ (fun _ => t35) ?_
          clear hK K'
          try simp only [Act.put, List.setIfInBounds_toArray, List.set_cons_zero, List.set_cons_succ]
          refine wpAnyU_one (i := 6) (o := { dst := some 167, op := Op.buildSlice 24 1 #[(0, Operand.tmp 166)], type := 24, pos := "ref.go:101", after := #[{ on := 5, ground := Ground.data }], guard := none }) (by kernel_rfl) rfl (fun K' hK => ?_)
          go_wp2_with fail
          refine hK.out _ _ (fun _ => by rw [World.cell?_alloc_lt _ _ _ (by show w.heap.size + 1 < w5.heap.size; omega)]; exact t35) ?_
          clear hK K'
          try simp only [Act.put, List.setIfInBounds_toArray, List.set_cons_zero, List.set_cons_succ]
          refine wpAnyU_one (i := 7) (o := { dst := some 168, op := Op.call { callee := Callee.builtin Builtin.append, args := #[Operand.tmp 162, Operand.tmp 167], argTypes := #[24, 24] }, type := 24, pos := "ref.go:101", after := #[{ on := 1, ground := Ground.data }, { on := 6, ground := Ground.data }, { on := 5, ground := Ground.chain }], guard := none }) (by kernel_rfl) rfl (fun K' hK => ?_)
          refine step_append_any _ (by rfl) _ _ 24 (by rfl) (w.heap.size + 2) 30 i5 (.agg #[.int .i64 0, .int .i64 0, .string ⟨#[]⟩, .slice none 0 0]) 4 56 Try.underlying24 hi hz0 hz1 hz2 rfl (by decide) (.slice K ks.length cc) ks.length (rowOf ks) (by rfl) ?own (some ⟨w5.heap.size, 0, none⟩) 1 1 [.int .i64 k0, .int .i64 n0, .string s0, .slice K0 len0 c9] (by rfl) ?src ?c3 ?c4 ?c5 ?_
          case own => exact (owns_of HOW.out (fun q hq => ho5.block q (by have := hbk q hq; show q < wr.heap.size; omega) (by have := hbk q hq; omega))).alloc _
          case src => exact .inr ⟨_, rfl, rfl, World.news_of_block (t := 30) (fr := (0, 0)) (heap_alloc_new w5 _), by simp [Value.oneCell']⟩
          case c3 => unfold maxLen; omega
          case c4 => omega
          case c5 => simp; omega
          intro v7 w7 hown7 hgrow7 hat7
          have hs7 := hgrow7.size
          simp only [World.heap_size_alloc'] at hs7 hat7
          have hg57 : w5.grownBy w7 (Value.slice K ks.length cc).ownBlock := ⟨hgrow7.os, hgrow7.tape, hgrow7.output, by omega, fun q hq hne => by rw [hgrow7.block q (by simp; omega) hne, Below.heap_alloc _ _ _ hq]⟩
          have hT7 : w7.heap[w.heap.size + 1]? = w5.heap[w.heap.size + 1]? := hg57.block _ (by omega) (fun e => by have := hbk _ e.symm; omega)
          have t37 : w7.cell? ⟨w.heap.size + 1, 3, none⟩ = some (.slice K ks.length cc) := (World.cell?_of_block hT7).trans t35
          have tf7 : w7.frozen? ⟨w.heap.size + 1, 3, none⟩ = false := (World.frozen?_of_block hT7).trans tf5
          have sz7 : w.heap.size + 1 < w7.heap.size := by omega
          obtain ⟨K7, cc7, rfl⟩ := owns_slice hown7
          have O7 : Hid (w7.ownsRow (w.heap.size + 2) 30 4 (.slice K7 (ks.length + 1) cc7) (ks.length + 1) (rowOf ks ++ [.int .i64 k0, .int .i64 n0, .string s0, .slice K0 len0 c9])) := hown7
          have HAT : Hid ((Value.slice K7 (ks.length + 1) cc7).ownBlock = (Value.slice K ks.length cc).ownBlock ∨ ∃ q, (Value.slice K7 (ks.length + 1) cc7).ownBlock = some q ∧ w5.heap.size ≤ q) := by
            rcases hat7 with h | h
            · exact .inl h
            · exact .inr ⟨_, h, by omega⟩
          clear hown7 hat7 hgrow7 t3 t35 tf5 tf3
          refine hK.out _ _ (fun h => not_until (by kernel_rfl) h) ?_
          clear hK K'
          try simp only [Act.put, List.setIfInBounds_toArray, List.set_cons_zero, List.set_cons_succ]
          refine wpAnyU_pure (i := 8) (oi := { dst := some 169, op := Op.fieldAddr 30 (Operand.tmp 5) 3, type := 0, pos := "ref.go:101", after := #[{ on := 0, ground := Ground.phase }, { on := 1, ground := Ground.phase }, { on := 2, ground := Ground.phase }, { on := 3, ground := Ground.phase }, { on := 4, ground := Ground.phase }, { on := 5, ground := Ground.phase }, { on := 6, ground := Ground.phase }, { on := 7, ground := Ground.phase }], guard := none }) (v := ?v8) rfl (by kernel_rfl) (by kernel_rfl) (by kernel_rfl) (by decide) (fun _ _ _ h => h) (Or.inl ⟨by rfl, ?y8⟩) (fun h => not_until (by kernel_rfl) h) ?r8
          case y8 => (intro w _; go_simp <;> with_reducible rfl)
          try simp only [Act.put, List.setIfInBounds_toArray, List.set_cons_zero, List.set_cons_succ]
          refine wpAnyU_one (i := 9) (o := { dst := none, op := Op.store 24 (Operand.tmp 169) (Operand.tmp 168), type := 0, pos := "ref.go:101", after := #[{ on := 8, ground := Ground.data }, { on := 7, ground := Ground.data }, { on := 7, ground := Ground.chain }, { on := 0, ground := Ground.phase }, { on := 1, ground := Ground.phase }, { on := 2, ground := Ground.phase }, { on := 3, ground := Ground.phase }, { on := 4, ground := Ground.phase }, { on := 5, ground := Ground.phase }, { on := 6, ground := Ground.phase }, { on := 7, ground := Ground.phase }], guard := none }) (by kernel_rfl) rfl (fun K' hK => ?_)
          refine step_store (by rfl) 24 _ _ (by rfl) ⟨w.heap.size + 1, 3, none⟩ K7 (ks.length + 1) cc7 (by rfl) (by rfl) _ t37 tf7 sizeOf_terms ?_
          refine hK.out _ _ (fun h => not_until (by kernel_rfl) h) ?_
          clear hK K'
          try simp only [Act.put, List.setIfInBounds_toArray, List.set_cons_zero, List.set_cons_succ]
          refine wpAnyU_done (by kernel_rfl) ?_ _
          clear t37 tf7
          go_wp2_with fail
          go_roundw
          case rel => exact rk_next h0 hf hk' hlt HRUN.out HN4.out HKS.out hbk ho5 HC.out O7.out hg57 HAT.out
          case measure => simp [intOf]; omega
        · have hlt' : decide ((ks.length : Int) < 1) = false := by simp; omega
          have hkc : ks.length = 1 := by omega
          have rf0 := rf 0
          have rf1 := rf 1
          have rf2 := rf 2
          have rf3 := rf 3
          clear tf rf
          have HT2 : Hid (tk (f + 1) k (bs.drop at') = .ok (ndK 3, foOf ks .nil, k', bs.drop at2)) := by
            show _ = _
            rw [HK.out, aboveR, HRUN.out, hkc, Nat.sub_self, kidsG]; rfl
          have HKC : Hid (ks.length = 1) := hkc
          clear hkc
          go_wp2_with fail
          refine bodyPost_ret (v := .agg #[.int .i64 3, .int .i64 0, .string ⟨#[]⟩, .slice K ks.length cc]) (by simp [results, Try.results37, go_sem, r0, r1, r2, r3]) rfl ?_
          have hfin := HN4.out.done h0
          refine rf_ok (at' := at2) HT2.out (hfin _ _ _ _).1 (hfin _ _ _ _).2 hat2 rfl ?_
          have hown := HOW.out
          rcases hown.2 with ⟨_, hz0⟩ | ⟨g, gcap, cur, hgv, hg1, hg2, _⟩
          · have := HKC.out; omega
          · injection hgv with hgK _ hgc
            have hg3 := hown.lt g (by rw [hgK]; rfl)
            refine ⟨fit_leaf 3 0 _ (by omega) (by omega) (by decide), K, cc, g, 0, by rw [flen_foOf]; rfl, by rw [flen_foOf]; omega, .inr hgK, ?_⟩
            refine RepG.keep (S := fun b => w.heap.size + 2 ≤ b ∧ b < wr.heap.size) (fun b hb => ⟨by omega, by rw [size_set4']; exact hb.2⟩) (fun b o hb => cell_set4 _ _ _ _ _ _ _ _ (by omega)) ?_
            exact rep_of_row ⟨hg1, hg3.2⟩ ks 0 (fun q hq => (HKS.out q hq).keep (fun b hb => ⟨hb.1, hb.2.1⟩) (fun _ _ _ => rfl)) (fun j hj => by rw [Nat.zero_add]; have := World.ownsRow.cellAt (hgK ▸ hown) j (by omega); exact this)
      · have HT2 : Hid (tk (f + 1) k (bs.drop at') = .error er) := by show _ = _; rw [HK.out, aboveR, hrun]
        have HN4 : Hid (NdSt w wr rb A cap bs at2 left (er : Int) 3 0 ⟨#[]⟩ (.slice K len cc)) := hN
        obtain ⟨_, ⟨_, c0, c1, c2, c3, _, _, _⟩, t0, t1, t2, t3, tf, r0, r1, r2, r3, rf, sz⟩ := hN
        have rf0 := rf 0
        have rf1 := rf 1
        have rf2 := rf 2
        have rf3 := rf 3
        have szr : w.heap.size < wr.heap.size := by omega
        have hez : ((er : Int) == 0) = false := by simp; omega
        clear tf rf hrun
        by_cases hlt : i < 1
        · have hlt' : decide ((i : Int) < 1) = true := by simp; omega
          go_wp2_with fail
          refine bodyPost_ret (v := .agg #[.int .i64 3, .int .i64 0, .string ⟨#[]⟩, .slice K len cc]) (by simp [results, Try.results37, go_sem, r0, r1, r2, r3]) rfl ?_
          have hfin := HN4.out.done h0
          exact rf_err HT2.out (hfin _ _ _ _).1 (hfin _ _ _ _).2
        · have hlt' : decide ((i : Int) < 1) = false := by simp; omega
          go_wp2_with fail
          refine bodyPost_ret (v := .agg #[.int .i64 3, .int .i64 0, .string ⟨#[]⟩, .slice K len cc]) (by simp [results, Try.results37, go_sem, r0, r1, r2, r3]) rfl ?_
          have hfin := HN4.out.done h0
          exact rf_err HT2.out (hfin _ _ _ _).1 (hfin _ _ _ _).2

set_option maxRecDepth 100000 in
set_option maxHeartbeats 4000000 in
theorem rnode_kids4 (f : Nat) (hf : f ≤ 15) (ih : RNodeOk f) (w : World) (rb : Nat) (A : Option Addr) (cap : Nat) (bs : List UInt8) (at' k B : Nat) (dz : Int) (hdz : dz = 17 - ((f + 1 : Nat) : Int)) (hR : RfSt w rb A cap bs (at' : Int) (64 - (k : Int)) 0) (hy : ByAt w B A bs) (hB : B ≤ rb) (hk : k ≤ 64) (ha : at' ≤ bs.length) (hl : bs.length ≤ 100000) (hlc : bs.length ≤ cap) (hcm : cap ≤ maxLen)
    (x : UInt8) (zs : List UInt8) (hxz : bs.drop at' = x :: zs) (hx : x.toNat = 4) :
    Calls Try.prog 37 #[.pointer (some ⟨rb, 0, none⟩), .int .i64 dz] w fun e w' => RfEnd w rb A cap bs (tk (f + 1) k (bs.drop at')) e w' := by
  obtain ⟨i5, hi, hz0, hz1, hz2⟩ := info_has Try.infoTerm2
  by_cases hk1 : 64 ≤ k
  · exact rnode_big (f + 1) w rb A cap bs at' k dz hR (by omega) hk (.inl hk1) _ (by cases bs.drop at' <;> rw [tk, if_pos (by omega)])
  have HDZ : Hid (dz = 16 - (f : Int)) := by show dz = _; omega
  have hd0 : 0 ≤ dz := by omega
  have hd1 : dz ≤ 16 := by omega
  clear hdz
  have h0 := hR.lt
  have HN1 : Hid (NdSt w (((w.setCell ⟨rb, 2, none⟩ (.int .i64 (64 - (k : Int) - 1))).alloc (.cells #[.int .i64 0, .int .i64 0, .string ⟨#[]⟩, .slice none 0 0] 30)).alloc (.cells #[.int .i64 0, .int .i64 0, .string ⟨#[]⟩, .slice none 0 0] 30)) rb A cap bs (at' : Int) (64 - (k : Int) - 1) 0 0 0 ⟨#[]⟩ (.slice none 0 0)) := NdSt.first w hR _
  have HY : Hid (∀ w', Only rb w w' → ByAt w' B A bs) := fun w' ho => hy.keep (Nat.le_refl _) (fun b o hb => ho.cell (by simp; omega) (by simp; omega))
  obtain ⟨_, c0, c1, c2, c3, g1, g2, g3⟩ := hR
  have hk2 : decide (64 - (k : Int) < 1) = false := by simp; omega
  have hk3 : decide (16 < dz) = false := by simp; omega
  go_enter Try.func37, Try.ntmps37
  go_wp2_with fail
  refine (rfnum_any _ rb A cap bs at' 1 B (64 - (k : Int) - 1) 1 rfl HN1.out.st (HY.out _ HN1.out.only) hB (by omega) (by omega) hl (by omega)).mono ?_
  rintro e w2 ⟨v, er, rfl, ho2, hst2, hcase⟩
  have hN2 := HN1.out.move h0 ho2 hst2
  have HN2 : Hid (NdSt w w2 rb A cap bs ((at' + 1 : Nat) : Int) (64 - (k : Int) - 1) (er : Int) 0 0 ⟨#[]⟩ (.slice none 0 0)) := hN2
  clear HN1 hst2 ho2 c0 c1 c2 c3 g1 g2 g3 hy
  have hne : ¬ bs.length < at' + 1 := fun hq => by have := congrArg List.length hxz; simp at this; omega
  obtain ⟨hs, hv, rfl⟩ : at' + 1 ≤ bs.length ∧ v = unBe ((bs.drop at').take 1) ∧ er = 0 := by rcases hcase with ⟨h1, _⟩ | h; exact absurd h1 hne; exact h
  have hzs : bs.drop (at' + 1) = zs := by rw [← List.drop_drop, hxz]; rfl
  have hv2 : v = x.toNat := by rw [hv, hxz]; simp [unBe]
  have HK0 : Hid (tk (f + 1) k (bs.drop at') = tkH (tk f) x.toNat (k + 1) zs) := by show _ = _; rw [hxz, tk, if_neg (by omega)]
  have Hzs : Hid (bs.drop (at' + 1) = zs) := hzs
  subst hv2
  clear hv hzs hxz hcase hne
  generalize x.toNat = h at *
  have HN3 : Hid (NdSt w (w2.setCell ⟨w.heap.size + 1, 0, none⟩ (.int .i64 (h : Int))) rb A cap bs ((at' + 1 : Nat) : Int) (64 - (k : Int) - 1) 0 (h : Int) 0 ⟨#[]⟩ (.slice none 0 0)) := HN2.out.kind h0 _
  obtain ⟨_, ⟨_, c0, c1, c2, c3, g1, g2, g3⟩, t0, t1, t2, t3, tf, _, _, _, _, _, sz⟩ := hN2
  have tf0 := tf 0
  clear tf HN2
  subst hx
  · have HK : Hid (tk (f + 1) k (bs.drop at') = aboveR (tk f) 4 1 (k + 1) zs) := by show _ = _; rw [HK0.out, tkH, if_neg (by decide), if_neg (by decide), if_pos (by decide)]; rfl
    go_wp2_with fail
    clear c0 c1 c2 c3 g1 g2 g3 t0 t1 t2 t3 tf0
    go_loopw [8] (fun iv wr => RkRel w f rb A cap bs 4 1 k zs iv wr) (fun iv _ => 1 - (intOf iv).toNat)
    case atStart =>
      refine .inl ⟨[], k + 1, at' + 1, .slice none 0 0, rfl, by simp, by omega, by omega, ?_, ?_, World.ownsRow_nil _ _ _ _, by simp⟩
      · rw [Hzs.out]; show kidsG (tk f) 1 (k + 1) zs = addK [] (kidsG (tk f) (1 - 0) (k + 1) zs)
        rw [Nat.sub_zero]; cases kidsG (tk f) 1 (k + 1) zs <;> rfl
      · have := HN3.out; rwa [show (64 : Int) - (k : Int) - 1 = 64 - ((k + 1 : Nat) : Int) from by omega] at this
    case round =>
      clear HN3
      rcases hrel with ⟨ks, k', at2, kv, rfl, hks, hk', hat2, hrun, hN, hown, hoks⟩ | ⟨i, er, at2, left, K, len, cc, rfl, hic, her1, her4, hrun, hN⟩
      · have HRUN : Hid (kidsG (tk f) 1 (k + 1) zs = addK ks (kidsG (tk f) (1 - ks.length) k' (bs.drop at2))) := hrun
        have HN4 : Hid (NdSt w wr rb A cap bs (at2 : Int) (64 - (k' : Int)) 0 4 0 ⟨#[]⟩ kv) := hN
        have HOW : Hid (wr.ownsRow (w.heap.size + 2) 30 4 kv ks.length (rowOf ks)) := hown
        have HKS : Hid (∀ q ∈ ks, q.Ok wr (fun b => w.heap.size + 2 ≤ b ∧ b < wr.heap.size ∧ kv.ownBlock ≠ some b)) := hoks
        obtain ⟨K, cc, rfl⟩ := owns_slice hown
        have hbk := hown.lt
        clear hrun hown hoks
        obtain ⟨_, ⟨_, c0, c1, c2, c3, _, _, _⟩, t0, t1, t2, t3, tf, r0, r1, r2, r3, rf, sz⟩ := hN
        have szr : w.heap.size < wr.heap.size := by omega
        by_cases hlt : ks.length < 1
        · have hlt' : decide ((ks.length : Int) < 1) = true := by simp; omega
          have tf3 := tf 3
          clear tf rf
          have N1 : Hid (Calls Try.prog 37 #[.pointer (some ⟨rb, 0, none⟩), .int .i64 (dz + 1)] wr.drew fun e w' => RfEnd wr.drew rb A cap bs (tk f k' (bs.drop at2)) e w') :=
            ih wr.drew rb A cap bs at2 k' B (dz + 1) (by have := HDZ.out; omega) (HN4.out.st.keep (Below.drew (Below.refl _ _))) (HY.out _ HN4.out.only.drew) hB hk' hat2 hl hlc hcm
          go_wp2_with fail
          clear c0 c1 c2 c3 t0 t1 t2 r0 r1 r2 r3
          refine wp_region_until (S := fun w' => w'.cell? ⟨w.heap.size + 1, 3, none⟩ = some (.slice K ks.length cc)) (j := 7) (by kernel_rfl) ?_
          refine wpAnyU_pure (i := 0) (oi := { dst := some 161, op := Op.fieldAddr 30 (Operand.tmp 5) 3, type := 0, pos := "ref.go:101", after := #[], guard := none }) (v := ?v0) rfl (by kernel_rfl) (by kernel_rfl) (by kernel_rfl) (by decide) (fun _ _ _ h => h) (Or.inl ⟨by rfl, ?y0⟩) (fun _ => t3) ?r0
          case y0 => (intro w _; go_simp <;> with_reducible rfl)
          try simp only [Act.put, List.setIfInBounds_toArray, List.set_cons_zero, List.set_cons_succ]
          refine wpAnyU_pure (i := 2) (oi := { dst := some 163, op := Op.move (Operand.tmp 0), type := 62, pos := "ref.go:101", after := #[], guard := none }) (v := ?v2) rfl (by kernel_rfl) (by kernel_rfl) (by kernel_rfl) (by decide) (fun _ _ _ h => h) (Or.inl ⟨by rfl, ?y2⟩) (fun _ => t3) ?r2
          case y2 => (intro w _; go_simp <;> with_reducible rfl)
          try simp only [Act.put, List.setIfInBounds_toArray, List.set_cons_zero, List.set_cons_succ]
          refine wpAnyU_pure (i := 3) (oi := { dst := some 164, op := Op.move (Operand.tmp 1), type := 3, pos := "ref.go:101", after := #[], guard := none }) (v := ?v3) rfl (by kernel_rfl) (by kernel_rfl) (by kernel_rfl) (by decide) (fun _ _ _ h => h) (Or.inl ⟨by rfl, ?y3⟩) (fun _ => t3) ?r3
          case y3 => (intro w _; go_simp <;> with_reducible rfl)
          try simp only [Act.put, List.setIfInBounds_toArray, List.set_cons_zero, List.set_cons_succ]
          refine wpAnyU_pure (i := 4) (oi := { dst := some 165, op := Op.binOp BinOp.add 3 (Operand.tmp 164) (Operand.const (Value.int IntKind.i64 1)) 3, type := 3, pos := "ref.go:101", after := #[{ on := 3, ground := Ground.data }], guard := none }) (v := ?v4) rfl (by kernel_rfl) (by kernel_rfl) (by kernel_rfl) (by decide) (fun _ _ _ h => h) (Or.inl ⟨by rfl, ?y4⟩) (fun _ => t3) ?r4
          case y4 => (intro w _; go_simp <;> with_reducible rfl)
          try simp only [Act.put, List.setIfInBounds_toArray, List.set_cons_zero, List.set_cons_succ]
          refine wpAnyU_load (i := 1) (oi := { dst := some 162, op := Op.load 24 (Operand.tmp 161), type := 24, pos := "ref.go:101", after := #[{ on := 0, ground := Ground.data }], guard := none }) (oj := { dst := some 168, op := Op.call { callee := Callee.builtin Builtin.append, args := #[Operand.tmp 162, Operand.tmp 167], argTypes := #[24, 24] }, type := 24, pos := "ref.go:101", after := #[{ on := 1, ground := Ground.data }, { on := 6, ground := Ground.data }, { on := 5, ground := Ground.chain }], guard := none }) (v := ?v1) rfl rfl (by kernel_rfl) (by kernel_rfl) (by kernel_rfl) (by decide) (by kernel_rfl) (by kernel_rfl) (fun _ _ _ h => h) (Or.inl ⟨by rfl, ?y1⟩) t3 ?r1
          case y1 => (intro w hSw; (try dsimp only at hSw); go_simp <;> with_reducible rfl)
          try simp only [Act.put, List.setIfInBounds_toArray, List.set_cons_zero, List.set_cons_succ]
          refine wpAnyU_one (i := 5) (o := { dst := some 166, op := Op.call { callee := Callee.value (Operand.func 37), args := #[Operand.tmp 163, Operand.tmp 165], argTypes := #[62, 3] }, type := 30, pos := "ref.go:101", after := #[{ on := 2, ground := Ground.data }, { on := 4, ground := Ground.data }], guard := none }) (by kernel_rfl) rfl (fun K' hK => ?_)
          go_simp
          rw [wrap_in _ (by omega) (by omega)]
          refine (N1.out).mono ?_
          clear N1
          rintro e w5 hE
          obtain ⟨k0, n0, s0, K0, len0, c9, rfl, ho5, hcase⟩ := rf_end_any hE
          have HC : Hid _ := hcase
          clear hE hcase
          have t35 : w5.cell? ⟨w.heap.size + 1, 3, none⟩ = some (.slice K ks.length cc) := (ho5.cell (by show w.heap.size + 1 < wr.heap.size; omega) (by simp; omega)).trans t3
          have tf5 : w5.frozen? ⟨w.heap.size + 1, 3, none⟩ = false := (ho5.frozen (by show w.heap.size + 1 < wr.heap.size; omega) (by simp; omega)).trans tf3
          have sz5 : wr.heap.size ≤ w5.heap.size := ho5.size
          go_wp2_with fail
          refine hK.out _ _ (fun _ => t35) ?_
          clear hK K'
          try simp only [Act.put, List.setIfInBounds_toArray, List.set_cons_zero, List.set_cons_succ]
          refine wpAnyU_one (i := 6) (o := { dst := some 167, op := Op.buildSlice 24 1 #[(0, Operand.tmp 166)], type := 24, pos := "ref.go:101", after := #[{ on := 5, ground := Ground.data }], guard := none }) (by kernel_rfl) rfl (fun K' hK => ?_)
          go_wp2_with fail
          refine hK.out _ _ (fun _ => by rw [World.cell?_alloc_lt _ _ _ (by show w.heap.size + 1 < w5.heap.size; omega)]; exact t35) ?_
          clear hK K'
          try simp only [Act.put, List.setIfInBounds_toArray, List.set_cons_zero, List.set_cons_succ]
          refine wpAnyU_one (i := 7) (o := { dst := some 168, op := Op.call { callee := Callee.builtin Builtin.append, args := #[Operand.tmp 162, Operand.tmp 167], argTypes := #[24, 24] }, type := 24, pos := "ref.go:101", after := #[{ on := 1, ground := Ground.data }, { on := 6, ground := Ground.data }, { on := 5, ground := Ground.chain }], guard := none }) (by kernel_rfl) rfl (fun K' hK => ?_)
          refine step_append_any _ (by rfl) _ _ 24 (by rfl) (w.heap.size + 2) 30 i5 (.agg #[.int .i64 0, .int .i64 0, .string ⟨#[]⟩, .slice none 0 0]) 4 56 Try.underlying24 hi hz0 hz1 hz2 rfl (by decide) (.slice K ks.length cc) ks.length (rowOf ks) (by rfl) ?own (some ⟨w5.heap.size, 0, none⟩) 1 1 [.int .i64 k0, .int .i64 n0, .string s0, .slice K0 len0 c9] (by rfl) ?src ?c3 ?c4 ?c5 ?_
          case own => exact (owns_of HOW.out (fun q hq => ho5.block q (by have := hbk q hq; show q < wr.heap.size; omega) (by have := hbk q hq; omega))).alloc _
          case src => exact .inr ⟨_, rfl, rfl, World.news_of_block (t := 30) (fr := (0, 0)) (heap_alloc_new w5 _), by simp [Value.oneCell']⟩
          case c3 => unfold maxLen; omega
          case c4 => omega
          case c5 => simp; omega
          intro v7 w7 hown7 hgrow7 hat7
          have hs7 := hgrow7.size
          simp only [World.heap_size_alloc'] at hs7 hat7
          have hg57 : w5.grownBy w7 (Value.slice K ks.length cc).ownBlock := ⟨hgrow7.os, hgrow7.tape, hgrow7.output, by omega, fun q hq hne => by rw [hgrow7.block q (by simp; omega) hne, Below.heap_alloc _ _ _ hq]⟩
          have hT7 : w7.heap[w.heap.size + 1]? = w5.heap[w.heap.size + 1]? := hg57.block _ (by omega) (fun e => by have := hbk _ e.symm; omega)
          have t37 : w7.cell? ⟨w.heap.size + 1, 3, none⟩ = some (.slice K ks.length cc) := (World.cell?_of_block hT7).trans t35
          have tf7 : w7.frozen? ⟨w.heap.size + 1, 3, none⟩ = false := (World.frozen?_of_block hT7).trans tf5
          have sz7 : w.heap.size + 1 < w7.heap.size := by omega
          obtain ⟨K7, cc7, rfl⟩ := owns_slice hown7
          have O7 : Hid (w7.ownsRow (w.heap.size + 2) 30 4 (.slice K7 (ks.length + 1) cc7) (ks.length + 1) (rowOf ks ++ [.int .i64 k0, .int .i64 n0, .string s0, .slice K0 len0 c9])) := hown7
          have HAT : Hid ((Value.slice K7 (ks.length + 1) cc7).ownBlock = (Value.slice K ks.length cc).ownBlock ∨ ∃ q, (Value.slice K7 (ks.length + 1) cc7).ownBlock = some q ∧ w5.heap.size ≤ q) := by
            rcases hat7 with h | h
            · exact .inl h
            · exact .inr ⟨_, h, by omega⟩
          clear hown7 hat7 hgrow7 t3 t35 tf5 tf3
          refine hK.out _ _ (fun h => not_until (by kernel_rfl) h) ?_
          clear hK K'
          try simp only [Act.put, List.setIfInBounds_toArray, List.set_cons_zero, List.set_cons_succ]
          refine wpAnyU_pure (i := 8) (oi := { dst := some 169, op := Op.fieldAddr 30 (Operand.tmp 5) 3, type := 0, pos := "ref.go:101", after := #[{ on := 0, ground := Ground.phase }, { on := 1, ground := Ground.phase }, { on := 2, ground := Ground.phase }, { on := 3, ground := Ground.phase }, { on := 4, ground := Ground.phase }, { on := 5, ground := Ground.phase }, { on := 6, ground := Ground.phase }, { on := 7, ground := Ground.phase }], guard := none }) (v := ?v8) rfl (by kernel_rfl) (by kernel_rfl) (by kernel_rfl) (by decide) (fun _ _ _ h => h) (Or.inl ⟨by rfl, ?y8⟩) (fun h => not_until (by kernel_rfl) h) ?r8
          case y8 => (intro w _; go_simp <;> with_reducible rfl)
          try simp only [Act.put, List.setIfInBounds_toArray, List.set_cons_zero, List.set_cons_succ]
          refine wpAnyU_one (i := 9) (o := { dst := none, op := Op.store 24 (Operand.tmp 169) (Operand.tmp 168), type := 0, pos := "ref.go:101", after := #[{ on := 8, ground := Ground.data }, { on := 7, ground := Ground.data }, { on := 7, ground := Ground.chain }, { on := 0, ground := Ground.phase }, { on := 1, ground := Ground.phase }, { on := 2, ground := Ground.phase }, { on := 3, ground := Ground.phase }, { on := 4, ground := Ground.phase }, { on := 5, ground := Ground.phase }, { on := 6, ground := Ground.phase }, { on := 7, ground := Ground.phase }], guard := none }) (by kernel_rfl) rfl (fun K' hK => ?_)
          refine step_store (by rfl) 24 _ _ (by rfl) ⟨w.heap.size + 1, 3, none⟩ K7 (ks.length + 1) cc7 (by rfl) (by rfl) _ t37 tf7 sizeOf_terms ?_
          refine hK.out _ _ (fun h => not_until (by kernel_rfl) h) ?_
          clear hK K'
          try simp only [Act.put, List.setIfInBounds_toArray, List.set_cons_zero, List.set_cons_succ]
          refine wpAnyU_done (by kernel_rfl) ?_ _
          clear t37 tf7
          go_wp2_with fail
          go_roundw
          case rel => exact rk_next h0 hf hk' hlt HRUN.out HN4.out HKS.out hbk ho5 HC.out O7.out hg57 HAT.out
          case measure => simp [intOf]; omega
        · have hlt' : decide ((ks.length : Int) < 1) = false := by simp; omega
          have hkc : ks.length = 1 := by omega
          have rf0 := rf 0
          have rf1 := rf 1
          have rf2 := rf 2
          have rf3 := rf 3
          clear tf rf
          have HT2 : Hid (tk (f + 1) k (bs.drop at') = .ok (ndK 4, foOf ks .nil, k', bs.drop at2)) := by
            show _ = _
            rw [HK.out, aboveR, HRUN.out, hkc, Nat.sub_self, kidsG]; rfl
          have HKC : Hid (ks.length = 1) := hkc
          clear hkc
          go_wp2_with fail
          refine bodyPost_ret (v := .agg #[.int .i64 4, .int .i64 0, .string ⟨#[]⟩, .slice K ks.length cc]) (by simp [results, Try.results37, go_sem, r0, r1, r2, r3]) rfl ?_
          have hfin := HN4.out.done h0
          refine rf_ok (at' := at2) HT2.out (hfin _ _ _ _).1 (hfin _ _ _ _).2 hat2 rfl ?_
          have hown := HOW.out
          rcases hown.2 with ⟨_, hz0⟩ | ⟨g, gcap, cur, hgv, hg1, hg2, _⟩
          · have := HKC.out; omega
          · injection hgv with hgK _ hgc
            have hg3 := hown.lt g (by rw [hgK]; rfl)
            refine ⟨fit_leaf 4 0 _ (by omega) (by omega) (by decide), K, cc, g, 0, by rw [flen_foOf]; rfl, by rw [flen_foOf]; omega, .inr hgK, ?_⟩
            refine RepG.keep (S := fun b => w.heap.size + 2 ≤ b ∧ b < wr.heap.size) (fun b hb => ⟨by omega, by rw [size_set4']; exact hb.2⟩) (fun b o hb => cell_set4 _ _ _ _ _ _ _ _ (by omega)) ?_
            exact rep_of_row ⟨hg1, hg3.2⟩ ks 0 (fun q hq => (HKS.out q hq).keep (fun b hb => ⟨hb.1, hb.2.1⟩) (fun _ _ _ => rfl)) (fun j hj => by rw [Nat.zero_add]; have := World.ownsRow.cellAt (hgK ▸ hown) j (by omega); exact this)
      · have HT2 : Hid (tk (f + 1) k (bs.drop at') = .error er) := by show _ = _; rw [HK.out, aboveR, hrun]
        have HN4 : Hid (NdSt w wr rb A cap bs at2 left (er : Int) 4 0 ⟨#[]⟩ (.slice K len cc)) := hN
        obtain ⟨_, ⟨_, c0, c1, c2, c3, _, _, _⟩, t0, t1, t2, t3, tf, r0, r1, r2, r3, rf, sz⟩ := hN
        have rf0 := rf 0
        have rf1 := rf 1
        have rf2 := rf 2
        have rf3 := rf 3
        have szr : w.heap.size < wr.heap.size := by omega
        have hez : ((er : Int) == 0) = false := by simp; omega
        clear tf rf hrun
        by_cases hlt : i < 1
        · have hlt' : decide ((i : Int) < 1) = true := by simp; omega
          go_wp2_with fail
          refine bodyPost_ret (v := .agg #[.int .i64 4, .int .i64 0, .string ⟨#[]⟩, .slice K len cc]) (by simp [results, Try.results37, go_sem, r0, r1, r2, r3]) rfl ?_
          have hfin := HN4.out.done h0
          exact rf_err HT2.out (hfin _ _ _ _).1 (hfin _ _ _ _).2
        · have hlt' : decide ((i : Int) < 1) = false := by simp; omega
          go_wp2_with fail
          refine bodyPost_ret (v := .agg #[.int .i64 4, .int .i64 0, .string ⟨#[]⟩, .slice K len cc]) (by simp [results, Try.results37, go_sem, r0, r1, r2, r3]) rfl ?_
          have hfin := HN4.out.done h0
          exact rf_err HT2.out (hfin _ _ _ _).1 (hfin _ _ _ _).2

set_option maxRecDepth 100000 in
set_option maxHeartbeats 4000000 in
theorem rnode_kids5 (f : Nat) (hf : f ≤ 15) (ih : RNodeOk f) (w : World) (rb : Nat) (A : Option Addr) (cap : Nat) (bs : List UInt8) (at' k B : Nat) (dz : Int) (hdz : dz = 17 - ((f + 1 : Nat) : Int)) (hR : RfSt w rb A cap bs (at' : Int) (64 - (k : Int)) 0) (hy : ByAt w B A bs) (hB : B ≤ rb) (hk : k ≤ 64) (ha : at' ≤ bs.length) (hl : bs.length ≤ 100000) (hlc : bs.length ≤ cap) (hcm : cap ≤ maxLen)
    (x : UInt8) (zs : List UInt8) (hxz : bs.drop at' = x :: zs) (hx : x.toNat = 5) :
    Calls Try.prog 37 #[.pointer (some ⟨rb, 0, none⟩), .int .i64 dz] w fun e w' => RfEnd w rb A cap bs (tk (f + 1) k (bs.drop at')) e w' := by
  obtain ⟨i5, hi, hz0, hz1, hz2⟩ := info_has Try.infoTerm2
  by_cases hk1 : 64 ≤ k
  · exact rnode_big (f + 1) w rb A cap bs at' k dz hR (by omega) hk (.inl hk1) _ (by cases bs.drop at' <;> rw [tk, if_pos (by omega)])
  have HDZ : Hid (dz = 16 - (f : Int)) := by show dz = _; omega
  have hd0 : 0 ≤ dz := by omega
  have hd1 : dz ≤ 16 := by omega
  clear hdz
  have h0 := hR.lt
  have HN1 : Hid (NdSt w (((w.setCell ⟨rb, 2, none⟩ (.int .i64 (64 - (k : Int) - 1))).alloc (.cells #[.int .i64 0, .int .i64 0, .string ⟨#[]⟩, .slice none 0 0] 30)).alloc (.cells #[.int .i64 0, .int .i64 0, .string ⟨#[]⟩, .slice none 0 0] 30)) rb A cap bs (at' : Int) (64 - (k : Int) - 1) 0 0 0 ⟨#[]⟩ (.slice none 0 0)) := NdSt.first w hR _
  have HY : Hid (∀ w', Only rb w w' → ByAt w' B A bs) := fun w' ho => hy.keep (Nat.le_refl _) (fun b o hb => ho.cell (by simp; omega) (by simp; omega))
  obtain ⟨_, c0, c1, c2, c3, g1, g2, g3⟩ := hR
  have hk2 : decide (64 - (k : Int) < 1) = false := by simp; omega
  have hk3 : decide (16 < dz) = false := by simp; omega
  go_enter Try.func37, Try.ntmps37
  go_wp2_with fail
  refine (rfnum_any _ rb A cap bs at' 1 B (64 - (k : Int) - 1) 1 rfl HN1.out.st (HY.out _ HN1.out.only) hB (by omega) (by omega) hl (by omega)).mono ?_
  rintro e w2 ⟨v, er, rfl, ho2, hst2, hcase⟩
  have hN2 := HN1.out.move h0 ho2 hst2
  have HN2 : Hid (NdSt w w2 rb A cap bs ((at' + 1 : Nat) : Int) (64 - (k : Int) - 1) (er : Int) 0 0 ⟨#[]⟩ (.slice none 0 0)) := hN2
  clear HN1 hst2 ho2 c0 c1 c2 c3 g1 g2 g3 hy
  have hne : ¬ bs.length < at' + 1 := fun hq => by have := congrArg List.length hxz; simp at this; omega
  obtain ⟨hs, hv, rfl⟩ : at' + 1 ≤ bs.length ∧ v = unBe ((bs.drop at').take 1) ∧ er = 0 := by rcases hcase with ⟨h1, _⟩ | h; exact absurd h1 hne; exact h
  have hzs : bs.drop (at' + 1) = zs := by rw [← List.drop_drop, hxz]; rfl
  have hv2 : v = x.toNat := by rw [hv, hxz]; simp [unBe]
  have HK0 : Hid (tk (f + 1) k (bs.drop at') = tkH (tk f) x.toNat (k + 1) zs) := by show _ = _; rw [hxz, tk, if_neg (by omega)]
  have Hzs : Hid (bs.drop (at' + 1) = zs) := hzs
  subst hv2
  clear hv hzs hxz hcase hne
  generalize x.toNat = h at *
  have HN3 : Hid (NdSt w (w2.setCell ⟨w.heap.size + 1, 0, none⟩ (.int .i64 (h : Int))) rb A cap bs ((at' + 1 : Nat) : Int) (64 - (k : Int) - 1) 0 (h : Int) 0 ⟨#[]⟩ (.slice none 0 0)) := HN2.out.kind h0 _
  obtain ⟨_, ⟨_, c0, c1, c2, c3, g1, g2, g3⟩, t0, t1, t2, t3, tf, _, _, _, _, _, sz⟩ := hN2
  have tf0 := tf 0
  clear tf HN2
  subst hx
  · have HK : Hid (tk (f + 1) k (bs.drop at') = aboveR (tk f) 5 2 (k + 1) zs) := by show _ = _; rw [HK0.out, tkH, if_neg (by decide), if_neg (by decide), if_neg (by decide), if_pos (by decide)]; rfl
    go_wp2_with fail
    clear c0 c1 c2 c3 g1 g2 g3 t0 t1 t2 t3 tf0
    go_loopw [8] (fun iv wr => RkRel w f rb A cap bs 5 2 k zs iv wr) (fun iv _ => 2 - (intOf iv).toNat)
    case atStart =>
      refine .inl ⟨[], k + 1, at' + 1, .slice none 0 0, rfl, by simp, by omega, by omega, ?_, ?_, World.ownsRow_nil _ _ _ _, by simp⟩
      · rw [Hzs.out]; show kidsG (tk f) 2 (k + 1) zs = addK [] (kidsG (tk f) (2 - 0) (k + 1) zs)
        rw [Nat.sub_zero]; cases kidsG (tk f) 2 (k + 1) zs <;> rfl
      · have := HN3.out; rwa [show (64 : Int) - (k : Int) - 1 = 64 - ((k + 1 : Nat) : Int) from by omega] at this
    case round =>
      clear HN3
      rcases hrel with ⟨ks, k', at2, kv, rfl, hks, hk', hat2, hrun, hN, hown, hoks⟩ | ⟨i, er, at2, left, K, len, cc, rfl, hic, her1, her4, hrun, hN⟩
      · have HRUN : Hid (kidsG (tk f) 2 (k + 1) zs = addK ks (kidsG (tk f) (2 - ks.length) k' (bs.drop at2))) := hrun
        have HN4 : Hid (NdSt w wr rb A cap bs (at2 : Int) (64 - (k' : Int)) 0 5 0 ⟨#[]⟩ kv) := hN
        have HOW : Hid (wr.ownsRow (w.heap.size + 2) 30 4 kv ks.length (rowOf ks)) := hown
        have HKS : Hid (∀ q ∈ ks, q.Ok wr (fun b => w.heap.size + 2 ≤ b ∧ b < wr.heap.size ∧ kv.ownBlock ≠ some b)) := hoks
        obtain ⟨K, cc, rfl⟩ := owns_slice hown
        have hbk := hown.lt
        clear hrun hown hoks
        obtain ⟨_, ⟨_, c0, c1, c2, c3, _, _, _⟩, t0, t1, t2, t3, tf, r0, r1, r2, r3, rf, sz⟩ := hN
        have szr : w.heap.size < wr.heap.size := by omega
        by_cases hlt : ks.length < 2
        · have hlt' : decide ((ks.length : Int) < 2) = true := by simp; omega
          have tf3 := tf 3
          clear tf rf
          have N1 : Hid (Calls Try.prog 37 #[.pointer (some ⟨rb, 0, none⟩), .int .i64 (dz + 1)] wr.drew fun e w' => RfEnd wr.drew rb A cap bs (tk f k' (bs.drop at2)) e w') :=
            ih wr.drew rb A cap bs at2 k' B (dz + 1) (by have := HDZ.out; omega) (HN4.out.st.keep (Below.drew (Below.refl _ _))) (HY.out _ HN4.out.only.drew) hB hk' hat2 hl hlc hcm
          go_wp2_with fail
          clear c0 c1 c2 c3 t0 t1 t2 r0 r1 r2 r3
          refine wp_region_until (S := fun w' => w'.cell? ⟨w.heap.size + 1, 3, none⟩ = some (.slice K ks.length cc)) (j := 7) (by kernel_rfl) ?_
          refine wpAnyU_pure (i := 0) (oi := { dst := some 161, op := Op.fieldAddr 30 (Operand.tmp 5) 3, type := 0, pos := "ref.go:101", after := #[], guard := none }) (v := ?v0) rfl (by kernel_rfl) (by kernel_rfl) (by kernel_rfl) (by decide) (fun _ _ _ h => h) (Or.inl ⟨by rfl, ?y0⟩) (fun _ => t3) ?r0
          case y0 => (intro w _; go_simp <;> with_reducible rfl)
          try simp only [Act.put, List.setIfInBounds_toArray, List.set_cons_zero, List.set_cons_succ]
          refine wpAnyU_pure (i := 2) (oi := { dst := some 163, op := Op.move (Operand.tmp 0), type := 62, pos := "ref.go:101", after := #[], guard := none }) (v := ?v2) rfl (by kernel_rfl) (by kernel_rfl) (by kernel_rfl) (by decide) (fun _ _ _ h => h) (Or.inl ⟨by rfl, ?y2⟩) (fun _ => t3) ?r2
          case y2 => (intro w _; go_simp <;> with_reducible rfl)
          try simp only [Act.put, List.setIfInBounds_toArray, List.set_cons_zero, List.set_cons_succ]
          refine wpAnyU_pure (i := 3) (oi := { dst := some 164, op := Op.move (Operand.tmp 1), type := 3, pos := "ref.go:101", after := #[], guard := none }) (v := ?v3) rfl (by kernel_rfl) (by kernel_rfl) (by kernel_rfl) (by decide) (fun _ _ _ h => h) (Or.inl ⟨by rfl, ?y3⟩) (fun _ => t3) ?r3
          case y3 => (intro w _; go_simp <;> with_reducible rfl)
          try simp only [Act.put, List.setIfInBounds_toArray, List.set_cons_zero, List.set_cons_succ]
          refine wpAnyU_pure (i := 4) (oi := { dst := some 165, op := Op.binOp BinOp.add 3 (Operand.tmp 164) (Operand.const (Value.int IntKind.i64 1)) 3, type := 3, pos := "ref.go:101", after := #[{ on := 3, ground := Ground.data }], guard := none }) (v := ?v4) rfl (by kernel_rfl) (by kernel_rfl) (by kernel_rfl) (by decide) (fun _ _ _ h => h) (Or.inl ⟨by rfl, ?y4⟩) (fun _ => t3) ?r4
          case y4 => (intro w _; go_simp <;> with_reducible rfl)
          try simp only [Act.put, List.setIfInBounds_toArray, List.set_cons_zero, List.set_cons_succ]
          refine wpAnyU_load (i := 1) (oi := { dst := some 162, op := Op.load 24 (Operand.tmp 161), type := 24, pos := "ref.go:101", after := #[{ on := 0, ground := Ground.data }], guard := none }) (oj := { dst := some 168, op := Op.call { callee := Callee.builtin Builtin.append, args := #[Operand.tmp 162, Operand.tmp 167], argTypes := #[24, 24] }, type := 24, pos := "ref.go:101", after := #[{ on := 1, ground := Ground.data }, { on := 6, ground := Ground.data }, { on := 5, ground := Ground.chain }], guard := none }) (v := ?v1) rfl rfl (by kernel_rfl) (by kernel_rfl) (by kernel_rfl) (by decide) (by kernel_rfl) (by kernel_rfl) (fun _ _ _ h => h) (Or.inl ⟨by rfl, ?y1⟩) t3 ?r1
          case y1 => (intro w hSw; (try dsimp only at hSw); go_simp <;> with_reducible rfl)
          try simp only [Act.put, List.setIfInBounds_toArray, List.set_cons_zero, List.set_cons_succ]
          refine wpAnyU_one (i := 5) (o := { dst := some 166, op := Op.call { callee := Callee.value (Operand.func 37), args := #[Operand.tmp 163, Operand.tmp 165], argTypes := #[62, 3] }, type := 30, pos := "ref.go:101", after := #[{ on := 2, ground := Ground.data }, { on := 4, ground := Ground.data }], guard := none }) (by kernel_rfl) rfl (fun K' hK => ?_)
          go_simp
          rw [wrap_in _ (by omega) (by omega)]
          refine (N1.out).mono ?_
          clear N1
          rintro e w5 hE
          obtain ⟨k0, n0, s0, K0, len0, c9, rfl, ho5, hcase⟩ := rf_end_any hE
          have HC : Hid _ := hcase
          clear hE hcase
          have t35 : w5.cell? ⟨w.heap.size + 1, 3, none⟩ = some (.slice K ks.length cc) := (ho5.cell (by show w.heap.size + 1 < wr.heap.size; omega) (by simp; omega)).trans t3
          have tf5 : w5.frozen? ⟨w.heap.size + 1, 3, none⟩ = false := (ho5.frozen (by show w.heap.size + 1 < wr.heap.size; omega) (by simp; omega)).trans tf3
          have sz5 : wr.heap.size ≤ w5.heap.size := ho5.size
          go_wp2_with fail
          refine hK.out _ _ (fun _ => t35) ?_
          clear hK K'
          try simp only [Act.put, List.setIfInBounds_toArray, List.set_cons_zero, List.set_cons_succ]
          refine wpAnyU_one (i := 6) (o := { dst := some 167, op := Op.buildSlice 24 1 #[(0, Operand.tmp 166)], type := 24, pos := "ref.go:101", after := #[{ on := 5, ground := Ground.data }], guard := none }) (by kernel_rfl) rfl (fun K' hK => ?_)
          go_wp2_with fail
          refine hK.out _ _ (fun _ => by rw [World.cell?_alloc_lt _ _ _ (by show w.heap.size + 1 < w5.heap.size; omega)]; exact t35) ?_
          clear hK K'
          try simp only [Act.put, List.setIfInBounds_toArray, List.set_cons_zero, List.set_cons_succ]
          refine wpAnyU_one (i := 7) (o := { dst := some 168, op := Op.call { callee := Callee.builtin Builtin.append, args := #[Operand.tmp 162, Operand.tmp 167], argTypes := #[24, 24] }, type := 24, pos := "ref.go:101", after := #[{ on := 1, ground := Ground.data }, { on := 6, ground := Ground.data }, { on := 5, ground := Ground.chain }], guard := none }) (by kernel_rfl) rfl (fun K' hK => ?_)
          refine step_append_any _ (by rfl) _ _ 24 (by rfl) (w.heap.size + 2) 30 i5 (.agg #[.int .i64 0, .int .i64 0, .string ⟨#[]⟩, .slice none 0 0]) 4 56 Try.underlying24 hi hz0 hz1 hz2 rfl (by decide) (.slice K ks.length cc) ks.length (rowOf ks) (by rfl) ?own (some ⟨w5.heap.size, 0, none⟩) 1 1 [.int .i64 k0, .int .i64 n0, .string s0, .slice K0 len0 c9] (by rfl) ?src ?c3 ?c4 ?c5 ?_
          case own => exact (owns_of HOW.out (fun q hq => ho5.block q (by have := hbk q hq; show q < wr.heap.size; omega) (by have := hbk q hq; omega))).alloc _
          case src => exact .inr ⟨_, rfl, rfl, World.news_of_block (t := 30) (fr := (0, 0)) (heap_alloc_new w5 _), by simp [Value.oneCell']⟩
          case c3 => unfold maxLen; omega
          case c4 => omega
          case c5 => simp; omega
          intro v7 w7 hown7 hgrow7 hat7
          have hs7 := hgrow7.size
          simp only [World.heap_size_alloc'] at hs7 hat7
          have hg57 : w5.grownBy w7 (Value.slice K ks.length cc).ownBlock := ⟨hgrow7.os, hgrow7.tape, hgrow7.output, by omega, fun q hq hne => by rw [hgrow7.block q (by simp; omega) hne, Below.heap_alloc _ _ _ hq]⟩
          have hT7 : w7.heap[w.heap.size + 1]? = w5.heap[w.heap.size + 1]? := hg57.block _ (by omega) (fun e => by have := hbk _ e.symm; omega)
          have t37 : w7.cell? ⟨w.heap.size + 1, 3, none⟩ = some (.slice K ks.length cc) := (World.cell?_of_block hT7).trans t35
          have tf7 : w7.frozen? ⟨w.heap.size + 1, 3, none⟩ = false := (World.frozen?_of_block hT7).trans tf5
          have sz7 : w.heap.size + 1 < w7.heap.size := by omega
          obtain ⟨K7, cc7, rfl⟩ := owns_slice hown7
          have O7 : Hid (w7.ownsRow (w.heap.size + 2) 30 4 (.slice K7 (ks.length + 1) cc7) (ks.length + 1) (rowOf ks ++ [.int .i64 k0, .int .i64 n0, .string s0, .slice K0 len0 c9])) := hown7
          have HAT : Hid ((Value.slice K7 (ks.length + 1) cc7).ownBlock = (Value.slice K ks.length cc).ownBlock ∨ ∃ q, (Value.slice K7 (ks.length + 1) cc7).ownBlock = some q ∧ w5.heap.size ≤ q) := by
            rcases hat7 with h | h
            · exact .inl h
            · exact .inr ⟨_, h, by omega⟩
          clear hown7 hat7 hgrow7 t3 t35 tf5 tf3
          refine hK.out _ _ (fun h => not_until (by kernel_rfl) h) ?_
          clear hK K'
          try simp only [Act.put, List.setIfInBounds_toArray, List.set_cons_zero, List.set_cons_succ]
          refine wpAnyU_pure (i := 8) (oi := { dst := some 169, op := Op.fieldAddr 30 (Operand.tmp 5) 3, type := 0, pos := "ref.go:101", after := #[{ on := 0, ground := Ground.phase }, { on := 1, ground := Ground.phase }, { on := 2, ground := Ground.phase }, { on := 3, ground := Ground.phase }, { on := 4, ground := Ground.phase }, { on := 5, ground := Ground.phase }, { on := 6, ground := Ground.phase }, { on := 7, ground := Ground.phase }], guard := none }) (v := ?v8) rfl (by kernel_rfl) (by kernel_rfl) (by kernel_rfl) (by decide) (fun _ _ _ h => h) (Or.inl ⟨by rfl, ?y8⟩) (fun h => not_until (by kernel_rfl) h) ?r8
          case y8 => (intro w _; go_simp <;> with_reducible rfl)
          try simp only [Act.put, List.setIfInBounds_toArray, List.set_cons_zero, List.set_cons_succ]
          refine wpAnyU_one (i := 9) (o := { dst := none, op := Op.store 24 (Operand.tmp 169) (Operand.tmp 168), type := 0, pos := "ref.go:101", after := #[{ on := 8, ground := Ground.data }, { on := 7, ground := Ground.data }, { on := 7, ground := Ground.chain }, { on := 0, ground := Ground.phase }, { on := 1, ground := Ground.phase }, { on := 2, ground := Ground.phase }, { on := 3, ground := Ground.phase }, { on := 4, ground := Ground.phase }, { on := 5, ground := Ground.phase }, { on := 6, ground := Ground.phase }, { on := 7, ground := Ground.phase }], guard := none }) (by kernel_rfl) rfl (fun K' hK => ?_)
          refine step_store (by rfl) 24 _ _ (by rfl) ⟨w.heap.size + 1, 3, none⟩ K7 (ks.length + 1) cc7 (by rfl) (by rfl) _ t37 tf7 sizeOf_terms ?_
          refine hK.out _ _ (fun h => not_until (by kernel_rfl) h) ?_
          clear hK K'
          try simp only [Act.put, List.setIfInBounds_toArray, List.set_cons_zero, List.set_cons_succ]
          refine wpAnyU_done (by kernel_rfl) ?_ _
          clear t37 tf7
          go_wp2_with fail
          go_roundw
          case rel => exact rk_next h0 hf hk' hlt HRUN.out HN4.out HKS.out hbk ho5 HC.out O7.out hg57 HAT.out
          case measure => simp [intOf]; omega
        · have hlt' : decide ((ks.length : Int) < 2) = false := by simp; omega
          have hkc : ks.length = 2 := by omega
          have rf0 := rf 0
          have rf1 := rf 1
          have rf2 := rf 2
          have rf3 := rf 3
          clear tf rf
          have HT2 : Hid (tk (f + 1) k (bs.drop at') = .ok (ndK 5, foOf ks .nil, k', bs.drop at2)) := by
            show _ = _
            rw [HK.out, aboveR, HRUN.out, hkc, Nat.sub_self, kidsG]; rfl
          have HKC : Hid (ks.length = 2) := hkc
          clear hkc
          go_wp2_with fail
          refine bodyPost_ret (v := .agg #[.int .i64 5, .int .i64 0, .string ⟨#[]⟩, .slice K ks.length cc]) (by simp [results, Try.results37, go_sem, r0, r1, r2, r3]) rfl ?_
          have hfin := HN4.out.done h0
          refine rf_ok (at' := at2) HT2.out (hfin _ _ _ _).1 (hfin _ _ _ _).2 hat2 rfl ?_
          have hown := HOW.out
          rcases hown.2 with ⟨_, hz0⟩ | ⟨g, gcap, cur, hgv, hg1, hg2, _⟩
          · have := HKC.out; omega
          · injection hgv with hgK _ hgc
            have hg3 := hown.lt g (by rw [hgK]; rfl)
            refine ⟨fit_leaf 5 0 _ (by omega) (by omega) (by decide), K, cc, g, 0, by rw [flen_foOf]; rfl, by rw [flen_foOf]; omega, .inr hgK, ?_⟩
            refine RepG.keep (S := fun b => w.heap.size + 2 ≤ b ∧ b < wr.heap.size) (fun b hb => ⟨by omega, by rw [size_set4']; exact hb.2⟩) (fun b o hb => cell_set4 _ _ _ _ _ _ _ _ (by omega)) ?_
            exact rep_of_row ⟨hg1, hg3.2⟩ ks 0 (fun q hq => (HKS.out q hq).keep (fun b hb => ⟨hb.1, hb.2.1⟩) (fun _ _ _ => rfl)) (fun j hj => by rw [Nat.zero_add]; have := World.ownsRow.cellAt (hgK ▸ hown) j (by omega); exact this)
      · have HT2 : Hid (tk (f + 1) k (bs.drop at') = .error er) := by show _ = _; rw [HK.out, aboveR, hrun]
        have HN4 : Hid (NdSt w wr rb A cap bs at2 left (er : Int) 5 0 ⟨#[]⟩ (.slice K len cc)) := hN
        obtain ⟨_, ⟨_, c0, c1, c2, c3, _, _, _⟩, t0, t1, t2, t3, tf, r0, r1, r2, r3, rf, sz⟩ := hN
        have rf0 := rf 0
        have rf1 := rf 1
        have rf2 := rf 2
        have rf3 := rf 3
        have szr : w.heap.size < wr.heap.size := by omega
        have hez : ((er : Int) == 0) = false := by simp; omega
        clear tf rf hrun
        by_cases hlt : i < 2
        · have hlt' : decide ((i : Int) < 2) = true := by simp; omega
          go_wp2_with fail
          refine bodyPost_ret (v := .agg #[.int .i64 5, .int .i64 0, .string ⟨#[]⟩, .slice K len cc]) (by simp [results, Try.results37, go_sem, r0, r1, r2, r3]) rfl ?_
          have hfin := HN4.out.done h0
          exact rf_err HT2.out (hfin _ _ _ _).1 (hfin _ _ _ _).2
        · have hlt' : decide ((i : Int) < 2) = false := by simp; omega
          go_wp2_with fail
          refine bodyPost_ret (v := .agg #[.int .i64 5, .int .i64 0, .string ⟨#[]⟩, .slice K len cc]) (by simp [results, Try.results37, go_sem, r0, r1, r2, r3]) rfl ?_
          have hfin := HN4.out.done h0
          exact rf_err HT2.out (hfin _ _ _ _).1 (hfin _ _ _ _).2

set_option maxRecDepth 100000 in
set_option maxHeartbeats 4000000 in
theorem rnode_kids6 (f : Nat) (hf : f ≤ 15) (ih : RNodeOk f) (w : World) (rb : Nat) (A : Option Addr) (cap : Nat) (bs : List UInt8) (at' k B : Nat) (dz : Int) (hdz : dz = 17 - ((f + 1 : Nat) : Int)) (hR : RfSt w rb A cap bs (at' : Int) (64 - (k : Int)) 0) (hy : ByAt w B A bs) (hB : B ≤ rb) (hk : k ≤ 64) (ha : at' ≤ bs.length) (hl : bs.length ≤ 100000) (hlc : bs.length ≤ cap) (hcm : cap ≤ maxLen)
    (x : UInt8) (zs : List UInt8) (hxz : bs.drop at' = x :: zs) (hx : x.toNat = 6) :
    Calls Try.prog 37 #[.pointer (some ⟨rb, 0, none⟩), .int .i64 dz] w fun e w' => RfEnd w rb A cap bs (tk (f + 1) k (bs.drop at')) e w' := by
  obtain ⟨i5, hi, hz0, hz1, hz2⟩ := info_has Try.infoTerm2
  by_cases hk1 : 64 ≤ k
  · exact rnode_big (f + 1) w rb A cap bs at' k dz hR (by omega) hk (.inl hk1) _ (by cases bs.drop at' <;> rw [tk, if_pos (by omega)])
  have HDZ : Hid (dz = 16 - (f : Int)) := by show dz = _; omega
  have hd0 : 0 ≤ dz := by omega
  have hd1 : dz ≤ 16 := by omega
  clear hdz
  have h0 := hR.lt
  have HN1 : Hid (NdSt w (((w.setCell ⟨rb, 2, none⟩ (.int .i64 (64 - (k : Int) - 1))).alloc (.cells #[.int .i64 0, .int .i64 0, .string ⟨#[]⟩, .slice none 0 0] 30)).alloc (.cells #[.int .i64 0, .int .i64 0, .string ⟨#[]⟩, .slice none 0 0] 30)) rb A cap bs (at' : Int) (64 - (k : Int) - 1) 0 0 0 ⟨#[]⟩ (.slice none 0 0)) := NdSt.first w hR _
  have HY : Hid (∀ w', Only rb w w' → ByAt w' B A bs) := fun w' ho => hy.keep (Nat.le_refl _) (fun b o hb => ho.cell (by simp; omega) (by simp; omega))
  obtain ⟨_, c0, c1, c2, c3, g1, g2, g3⟩ := hR
  have hk2 : decide (64 - (k : Int) < 1) = false := by simp; omega
  have hk3 : decide (16 < dz) = false := by simp; omega
  go_enter Try.func37, Try.ntmps37
  go_wp2_with fail
  refine (rfnum_any _ rb A cap bs at' 1 B (64 - (k : Int) - 1) 1 rfl HN1.out.st (HY.out _ HN1.out.only) hB (by omega) (by omega) hl (by omega)).mono ?_
  rintro e w2 ⟨v, er, rfl, ho2, hst2, hcase⟩
  have hN2 := HN1.out.move h0 ho2 hst2
  have HN2 : Hid (NdSt w w2 rb A cap bs ((at' + 1 : Nat) : Int) (64 - (k : Int) - 1) (er : Int) 0 0 ⟨#[]⟩ (.slice none 0 0)) := hN2
  clear HN1 hst2 ho2 c0 c1 c2 c3 g1 g2 g3 hy
  have hne : ¬ bs.length < at' + 1 := fun hq => by have := congrArg List.length hxz; simp at this; omega
  obtain ⟨hs, hv, rfl⟩ : at' + 1 ≤ bs.length ∧ v = unBe ((bs.drop at').take 1) ∧ er = 0 := by rcases hcase with ⟨h1, _⟩ | h; exact absurd h1 hne; exact h
  have hzs : bs.drop (at' + 1) = zs := by rw [← List.drop_drop, hxz]; rfl
  have hv2 : v = x.toNat := by rw [hv, hxz]; simp [unBe]
  have HK0 : Hid (tk (f + 1) k (bs.drop at') = tkH (tk f) x.toNat (k + 1) zs) := by show _ = _; rw [hxz, tk, if_neg (by omega)]
  have Hzs : Hid (bs.drop (at' + 1) = zs) := hzs
  subst hv2
  clear hv hzs hxz hcase hne
  generalize x.toNat = h at *
  have HN3 : Hid (NdSt w (w2.setCell ⟨w.heap.size + 1, 0, none⟩ (.int .i64 (h : Int))) rb A cap bs ((at' + 1 : Nat) : Int) (64 - (k : Int) - 1) 0 (h : Int) 0 ⟨#[]⟩ (.slice none 0 0)) := HN2.out.kind h0 _
  obtain ⟨_, ⟨_, c0, c1, c2, c3, g1, g2, g3⟩, t0, t1, t2, t3, tf, _, _, _, _, _, sz⟩ := hN2
  have tf0 := tf 0
  clear tf HN2
  subst hx
  · have HK : Hid (tk (f + 1) k (bs.drop at') = aboveR (tk f) 6 2 (k + 1) zs) := by show _ = _; rw [HK0.out, tkH, if_neg (by decide), if_neg (by decide), if_neg (by decide), if_pos (by decide)]; rfl
    go_wp2_with fail
    clear c0 c1 c2 c3 g1 g2 g3 t0 t1 t2 t3 tf0
    go_loopw [8] (fun iv wr => RkRel w f rb A cap bs 6 2 k zs iv wr) (fun iv _ => 2 - (intOf iv).toNat)
    case atStart =>
      refine .inl ⟨[], k + 1, at' + 1, .slice none 0 0, rfl, by simp, by omega, by omega, ?_, ?_, World.ownsRow_nil _ _ _ _, by simp⟩
      · rw [Hzs.out]; show kidsG (tk f) 2 (k + 1) zs = addK [] (kidsG (tk f) (2 - 0) (k + 1) zs)
        rw [Nat.sub_zero]; cases kidsG (tk f) 2 (k + 1) zs <;> rfl
      · have := HN3.out; rwa [show (64 : Int) - (k : Int) - 1 = 64 - ((k + 1 : Nat) : Int) from by omega] at this
    case round =>
      clear HN3
      rcases hrel with ⟨ks, k', at2, kv, rfl, hks, hk', hat2, hrun, hN, hown, hoks⟩ | ⟨i, er, at2, left, K, len, cc, rfl, hic, her1, her4, hrun, hN⟩
      · have HRUN : Hid (kidsG (tk f) 2 (k + 1) zs = addK ks (kidsG (tk f) (2 - ks.length) k' (bs.drop at2))) := hrun
        have HN4 : Hid (NdSt w wr rb A cap bs (at2 : Int) (64 - (k' : Int)) 0 6 0 ⟨#[]⟩ kv) := hN
        have HOW : Hid (wr.ownsRow (w.heap.size + 2) 30 4 kv ks.length (rowOf ks)) := hown
        have HKS : Hid (∀ q ∈ ks, q.Ok wr (fun b => w.heap.size + 2 ≤ b ∧ b < wr.heap.size ∧ kv.ownBlock ≠ some b)) := hoks
        obtain ⟨K, cc, rfl⟩ := owns_slice hown
        have hbk := hown.lt
        clear hrun hown hoks
        obtain ⟨_, ⟨_, c0, c1, c2, c3, _, _, _⟩, t0, t1, t2, t3, tf, r0, r1, r2, r3, rf, sz⟩ := hN
        have szr : w.heap.size < wr.heap.size := by omega
        by_cases hlt : ks.length < 2
        · have hlt' : decide ((ks.length : Int) < 2) = true := by simp; omega
          have tf3 := tf 3
          clear tf rf
          have N1 : Hid (Calls Try.prog 37 #[.pointer (some ⟨rb, 0, none⟩), .int .i64 (dz + 1)] wr.drew fun e w' => RfEnd wr.drew rb A cap bs (tk f k' (bs.drop at2)) e w') :=
            ih wr.drew rb A cap bs at2 k' B (dz + 1) (by have := HDZ.out; omega) (HN4.out.st.keep (Below.drew (Below.refl _ _))) (HY.out _ HN4.out.only.drew) hB hk' hat2 hl hlc hcm
          go_wp2_with fail
          clear c0 c1 c2 c3 t0 t1 t2 r0 r1 r2 r3
          refine wp_region_until (S := fun w' => w'.cell? ⟨w.heap.size + 1, 3, none⟩ = some (.slice K ks.length cc)) (j := 7) (by kernel_rfl) ?_
          refine wpAnyU_pure (i := 0) (oi := { dst := some 161, op := Op.fieldAddr 30 (Operand.tmp 5) 3, type := 0, pos := "ref.go:101", after := #[], guard := none }) (v := ?v0) rfl (by kernel_rfl) (by kernel_rfl) (by kernel_rfl) (by decide) (fun _ _ _ h => h) (Or.inl ⟨by rfl, ?y0⟩) (fun _ => t3) ?r0
          case y0 => (intro w _; go_simp <;> with_reducible rfl)
          try simp only [Act.put, List.setIfInBounds_toArray, List.set_cons_zero, List.set_cons_succ]
          refine wpAnyU_pure (i := 2) (oi := { dst := some 163, op := Op.move (Operand.tmp 0), type := 62, pos := "ref.go:101", after := #[], guard := none }) (v := ?v2) rfl (by kernel_rfl) (by kernel_rfl) (by kernel_rfl) (by decide) (fun _ _ _ h => h) (Or.inl ⟨by rfl, ?y2⟩) (fun _ => t3) ?r2
          case y2 => (intro w _; go_simp <;> with_reducible rfl)
          try simp only [Act.put, List.setIfInBounds_toArray, List.set_cons_zero, List.set_cons_succ]
          refine wpAnyU_pure (i := 3) (oi := { dst := some 164, op := Op.move (Operand.tmp 1), type := 3, pos := "ref.go:101", after := #[], guard := none }) (v := ?v3) rfl (by kernel_rfl) (by kernel_rfl) (by kernel_rfl) (by decide) (fun _ _ _ h => h) (Or.inl ⟨by rfl, ?y3⟩) (fun _ => t3) ?r3
          case y3 => (intro w _; go_simp <;> with_reducible rfl)
          try simp only [Act.put, List.setIfInBounds_toArray, List.set_cons_zero, List.set_cons_succ]
          refine wpAnyU_pure (i := 4) (oi := { dst := some 165, op := Op.binOp BinOp.add 3 (Operand.tmp 164) (Operand.const (Value.int IntKind.i64 1)) 3, type := 3, pos := "ref.go:101", after := #[{ on := 3, ground := Ground.data }], guard := none }) (v := ?v4) rfl (by kernel_rfl) (by kernel_rfl) (by kernel_rfl) (by decide) (fun _ _ _ h => h) (Or.inl ⟨by rfl, ?y4⟩) (fun _ => t3) ?r4
          case y4 => (intro w _; go_simp <;> with_reducible rfl)
          try simp only [Act.put, List.setIfInBounds_toArray, List.set_cons_zero, List.set_cons_succ]
          refine wpAnyU_load (i := 1) (oi := { dst := some 162, op := Op.load 24 (Operand.tmp 161), type := 24, pos := "ref.go:101", after := #[{ on := 0, ground := Ground.data }], guard := none }) (oj := { dst := some 168, op := Op.call { callee := Callee.builtin Builtin.append, args := #[Operand.tmp 162, Operand.tmp 167], argTypes := #[24, 24] }, type := 24, pos := "ref.go:101", after := #[{ on := 1, ground := Ground.data }, { on := 6, ground := Ground.data }, { on := 5, ground := Ground.chain }], guard := none }) (v := ?v1) rfl rfl (by kernel_rfl) (by kernel_rfl) (by kernel_rfl) (by decide) (by kernel_rfl) (by kernel_rfl) (fun _ _ _ h => h) (Or.inl ⟨by rfl, ?y1⟩) t3 ?r1
          case y1 => (intro w hSw; (try dsimp only at hSw); go_simp <;> with_reducible rfl)
          try simp only [Act.put, List.setIfInBounds_toArray, List.set_cons_zero, List.set_cons_succ]
          refine wpAnyU_one (i := 5) (o := { dst := some 166, op := Op.call { callee := Callee.value (Operand.func 37), args := #[Operand.tmp 163, Operand.tmp 165], argTypes := #[62, 3] }, type := 30, pos := "ref.go:101", after := #[{ on := 2, ground := Ground.data }, { on := 4, ground := Ground.data }], guard := none }) (by kernel_rfl) rfl (fun K' hK => ?_)
          go_simp
          rw [wrap_in _ (by omega) (by omega)]
          refine (N1.out).mono ?_
          clear N1
          rintro e w5 hE
          obtain ⟨k0, n0, s0, K0, len0, c9, rfl, ho5, hcase⟩ := rf_end_any hE
          have HC : Hid _ := hcase
          clear hE hcase
          have t35 : w5.cell? ⟨w.heap.size + 1, 3, none⟩ = some (.slice K ks.length cc) := (ho5.cell (by show w.heap.size + 1 < wr.heap.size; omega) (by simp; omega)).trans t3
          have tf5 : w5.frozen? ⟨w.heap.size + 1, 3, none⟩ = false := (ho5.frozen (by show w.heap.size + 1 < wr.heap.size; omega) (by simp; omega)).trans tf3
          have sz5 : wr.heap.size ≤ w5.heap.size := ho5.size
          go_wp2_with fail
          refine hK.out _ _ (fun _ => t35) ?_
          clear hK K'
          try simp only [Act.put, List.setIfInBounds_toArray, List.set_cons_zero, List.set_cons_succ]
          refine wpAnyU_one (i := 6) (o := { dst := some 167, op := Op.buildSlice 24 1 #[(0, Operand.tmp 166)], type := 24, pos := "ref.go:101", after := #[{ on := 5, ground := Ground.data }], guard := none }) (by kernel_rfl) rfl (fun K' hK => ?_)
          go_wp2_with fail
          refine hK.out _ _ (fun _ => by rw [World.cell?_alloc_lt _ _ _ (by show w.heap.size + 1 < w5.heap.size; omega)]; exact t35) ?_
          clear hK K'
          try simp only [Act.put, List.setIfInBounds_toArray, List.set_cons_zero, List.set_cons_succ]
          refine wpAnyU_one (i := 7) (o := { dst := some 168, op := Op.call { callee := Callee.builtin Builtin.append, args := #[Operand.tmp 162, Operand.tmp 167], argTypes := #[24, 24] }, type := 24, pos := "ref.go:101", after := #[{ on := 1, ground := Ground.data }, { on := 6, ground := Ground.data }, { on := 5, ground := Ground.chain }], guard := none }) (by kernel_rfl) rfl (fun K' hK => ?_)
          refine step_append_any _ (by rfl) _ _ 24 (by rfl) (w.heap.size + 2) 30 i5 (.agg #[.int .i64 0, .int .i64 0, .string ⟨#[]⟩, .slice none 0 0]) 4 56 Try.underlying24 hi hz0 hz1 hz2 rfl (by decide) (.slice K ks.length cc) ks.length (rowOf ks) (by rfl) ?own (some ⟨w5.heap.size, 0, none⟩) 1 1 [.int .i64 k0, .int .i64 n0, .string s0, .slice K0 len0 c9] (by rfl) ?src ?c3 ?c4 ?c5 ?_
          case own => exact (owns_of HOW.out (fun q hq => ho5.block q (by have := hbk q hq; show q < wr.heap.size; omega) (by have := hbk q hq; omega))).alloc _
          case src => exact .inr ⟨_, rfl, rfl, World.news_of_block (t := 30) (fr := (0, 0)) (heap_alloc_new w5 _), by simp [Value.oneCell']⟩
          case c3 => unfold maxLen; omega
          case c4 => omega
          case c5 => simp; omega
          intro v7 w7 hown7 hgrow7 hat7
          have hs7 := hgrow7.size
          simp only [World.heap_size_alloc'] at hs7 hat7
          have hg57 : w5.grownBy w7 (Value.slice K ks.length cc).ownBlock := ⟨hgrow7.os, hgrow7.tape, hgrow7.output, by omega, fun q hq hne => by rw [hgrow7.block q (by simp; omega) hne, Below.heap_alloc _ _ _ hq]⟩
          have hT7 : w7.heap[w.heap.size + 1]? = w5.heap[w.heap.size + 1]? := hg57.block _ (by omega) (fun e => by have := hbk _ e.symm; omega)
          have t37 : w7.cell? ⟨w.heap.size + 1, 3, none⟩ = some (.slice K ks.length cc) := (World.cell?_of_block hT7).trans t35
          have tf7 : w7.frozen? ⟨w.heap.size + 1, 3, none⟩ = false := (World.frozen?_of_block hT7).trans tf5
          have sz7 : w.heap.size + 1 < w7.heap.size := by omega
          obtain ⟨K7, cc7, rfl⟩ := owns_slice hown7
          have O7 : Hid (w7.ownsRow (w.heap.size + 2) 30 4 (.slice K7 (ks.length + 1) cc7) (ks.length + 1) (rowOf ks ++ [.int .i64 k0, .int .i64 n0, .string s0, .slice K0 len0 c9])) := hown7
          have HAT : Hid ((Value.slice K7 (ks.length + 1) cc7).ownBlock = (Value.slice K ks.length cc).ownBlock ∨ ∃ q, (Value.slice K7 (ks.length + 1) cc7).ownBlock = some q ∧ w5.heap.size ≤ q) := by
            rcases hat7 with h | h
            · exact .inl h
            · exact .inr ⟨_, h, by omega⟩
          clear hown7 hat7 hgrow7 t3 t35 tf5 tf3
          refine hK.out _ _ (fun h => not_until (by kernel_rfl) h) ?_
          clear hK K'
          try simp only [Act.put, List.setIfInBounds_toArray, List.set_cons_zero, List.set_cons_succ]
          refine wpAnyU_pure (i := 8) (oi := { dst := some 169, op := Op.fieldAddr 30 (Operand.tmp 5) 3, type := 0, pos := "ref.go:101", after := #[{ on := 0, ground := Ground.phase }, { on := 1, ground := Ground.phase }, { on := 2, ground := Ground.phase }, { on := 3, ground := Ground.phase }, { on := 4, ground := Ground.phase }, { on := 5, ground := Ground.phase }, { on := 6, ground := Ground.phase }, { on := 7, ground := Ground.phase }], guard := none }) (v := ?v8) rfl (by kernel_rfl) (by kernel_rfl) (by kernel_rfl) (by decide) (fun _ _ _ h => h) (Or.inl ⟨by rfl, ?y8⟩) (fun h => not_until (by kernel_rfl) h) ?r8
          case y8 => (intro w _; go_simp <;> with_reducible rfl)
          try simp only [Act.put, List.setIfInBounds_toArray, List.set_cons_zero, List.set_cons_succ]
          refine wpAnyU_one (i := 9) (o := { dst := none, op := Op.store 24 (Operand.tmp 169) (Operand.tmp 168), type := 0, pos := "ref.go:101", after := #[{ on := 8, ground := Ground.data }, { on := 7, ground := Ground.data }, { on := 7, ground := Ground.chain }, { on := 0, ground := Ground.phase }, { on := 1, ground := Ground.phase }, { on := 2, ground := Ground.phase }, { on := 3, ground := Ground.phase }, { on := 4, ground := Ground.phase }, { on := 5, ground := Ground.phase }, { on := 6, ground := Ground.phase }, { on := 7, ground := Ground.phase }], guard := none }) (by kernel_rfl) rfl (fun K' hK => ?_)
          refine step_store (by rfl) 24 _ _ (by rfl) ⟨w.heap.size + 1, 3, none⟩ K7 (ks.length + 1) cc7 (by rfl) (by rfl) _ t37 tf7 sizeOf_terms ?_
          refine hK.out _ _ (fun h => not_until (by kernel_rfl) h) ?_
          clear hK K'
          try simp only [Act.put, List.setIfInBounds_toArray, List.set_cons_zero, List.set_cons_succ]
          refine wpAnyU_done (by kernel_rfl) ?_ _
          clear t37 tf7
          go_wp2_with fail
          go_roundw
          case rel => exact rk_next h0 hf hk' hlt HRUN.out HN4.out HKS.out hbk ho5 HC.out O7.out hg57 HAT.out
          case measure => simp [intOf]; omega
        · have hlt' : decide ((ks.length : Int) < 2) = false := by simp; omega
          have hkc : ks.length = 2 := by omega
          have rf0 := rf 0
          have rf1 := rf 1
          have rf2 := rf 2
          have rf3 := rf 3
          clear tf rf
          have HT2 : Hid (tk (f + 1) k (bs.drop at') = .ok (ndK 6, foOf ks .nil, k', bs.drop at2)) := by
            show _ = _
            rw [HK.out, aboveR, HRUN.out, hkc, Nat.sub_self, kidsG]; rfl
          have HKC : Hid (ks.length = 2) := hkc
          clear hkc
          go_wp2_with fail
          refine bodyPost_ret (v := .agg #[.int .i64 6, .int .i64 0, .string ⟨#[]⟩, .slice K ks.length cc]) (by simp [results, Try.results37, go_sem, r0, r1, r2, r3]) rfl ?_
          have hfin := HN4.out.done h0
          refine rf_ok (at' := at2) HT2.out (hfin _ _ _ _).1 (hfin _ _ _ _).2 hat2 rfl ?_
          have hown := HOW.out
          rcases hown.2 with ⟨_, hz0⟩ | ⟨g, gcap, cur, hgv, hg1, hg2, _⟩
          · have := HKC.out; omega
          · injection hgv with hgK _ hgc
            have hg3 := hown.lt g (by rw [hgK]; rfl)
            refine ⟨fit_leaf 6 0 _ (by omega) (by omega) (by decide), K, cc, g, 0, by rw [flen_foOf]; rfl, by rw [flen_foOf]; omega, .inr hgK, ?_⟩
            refine RepG.keep (S := fun b => w.heap.size + 2 ≤ b ∧ b < wr.heap.size) (fun b hb => ⟨by omega, by rw [size_set4']; exact hb.2⟩) (fun b o hb => cell_set4 _ _ _ _ _ _ _ _ (by omega)) ?_
            exact rep_of_row ⟨hg1, hg3.2⟩ ks 0 (fun q hq => (HKS.out q hq).keep (fun b hb => ⟨hb.1, hb.2.1⟩) (fun _ _ _ => rfl)) (fun j hj => by rw [Nat.zero_add]; have := World.ownsRow.cellAt (hgK ▸ hown) j (by omega); exact this)
      · have HT2 : Hid (tk (f + 1) k (bs.drop at') = .error er) := by show _ = _; rw [HK.out, aboveR, hrun]
        have HN4 : Hid (NdSt w wr rb A cap bs at2 left (er : Int) 6 0 ⟨#[]⟩ (.slice K len cc)) := hN
        obtain ⟨_, ⟨_, c0, c1, c2, c3, _, _, _⟩, t0, t1, t2, t3, tf, r0, r1, r2, r3, rf, sz⟩ := hN
        have rf0 := rf 0
        have rf1 := rf 1
        have rf2 := rf 2
        have rf3 := rf 3
        have szr : w.heap.size < wr.heap.size := by omega
        have hez : ((er : Int) == 0) = false := by simp; omega
        clear tf rf hrun
        by_cases hlt : i < 2
        · have hlt' : decide ((i : Int) < 2) = true := by simp; omega
          go_wp2_with fail
          refine bodyPost_ret (v := .agg #[.int .i64 6, .int .i64 0, .string ⟨#[]⟩, .slice K len cc]) (by simp [results, Try.results37, go_sem, r0, r1, r2, r3]) rfl ?_
          have hfin := HN4.out.done h0
          exact rf_err HT2.out (hfin _ _ _ _).1 (hfin _ _ _ _).2
        · have hlt' : decide ((i : Int) < 2) = false := by simp; omega
          go_wp2_with fail
          refine bodyPost_ret (v := .agg #[.int .i64 6, .int .i64 0, .string ⟨#[]⟩, .slice K len cc]) (by simp [results, Try.results37, go_sem, r0, r1, r2, r3]) rfl ?_
          have hfin := HN4.out.done h0
          exact rf_err HT2.out (hfin _ _ _ _).1 (hfin _ _ _ _).2

set_option maxRecDepth 100000 in
set_option maxHeartbeats 4000000 in
theorem rnode_kids7 (f : Nat) (hf : f ≤ 15) (ih : RNodeOk f) (w : World) (rb : Nat) (A : Option Addr) (cap : Nat) (bs : List UInt8) (at' k B : Nat) (dz : Int) (hdz : dz = 17 - ((f + 1 : Nat) : Int)) (hR : RfSt w rb A cap bs (at' : Int) (64 - (k : Int)) 0) (hy : ByAt w B A bs) (hB : B ≤ rb) (hk : k ≤ 64) (ha : at' ≤ bs.length) (hl : bs.length ≤ 100000) (hlc : bs.length ≤ cap) (hcm : cap ≤ maxLen)
    (x : UInt8) (zs : List UInt8) (hxz : bs.drop at' = x :: zs) (hx : x.toNat = 7) :
    Calls Try.prog 37 #[.pointer (some ⟨rb, 0, none⟩), .int .i64 dz] w fun e w' => RfEnd w rb A cap bs (tk (f + 1) k (bs.drop at')) e w' := by
  obtain ⟨i5, hi, hz0, hz1, hz2⟩ := info_has Try.infoTerm2
  by_cases hk1 : 64 ≤ k
  · exact rnode_big (f + 1) w rb A cap bs at' k dz hR (by omega) hk (.inl hk1) _ (by cases bs.drop at' <;> rw [tk, if_pos (by omega)])
  have HDZ : Hid (dz = 16 - (f : Int)) := by show dz = _; omega
  have hd0 : 0 ≤ dz := by omega
  have hd1 : dz ≤ 16 := by omega
  clear hdz
  have h0 := hR.lt
  have HN1 : Hid (NdSt w (((w.setCell ⟨rb, 2, none⟩ (.int .i64 (64 - (k : Int) - 1))).alloc (.cells #[.int .i64 0, .int .i64 0, .string ⟨#[]⟩, .slice none 0 0] 30)).alloc (.cells #[.int .i64 0, .int .i64 0, .string ⟨#[]⟩, .slice none 0 0] 30)) rb A cap bs (at' : Int) (64 - (k : Int) - 1) 0 0 0 ⟨#[]⟩ (.slice none 0 0)) := NdSt.first w hR _
  have HY : Hid (∀ w', Only rb w w' → ByAt w' B A bs) := fun w' ho => hy.keep (Nat.le_refl _) (fun b o hb => ho.cell (by simp; omega) (by simp; omega))
  obtain ⟨_, c0, c1, c2, c3, g1, g2, g3⟩ := hR
  have hk2 : decide (64 - (k : Int) < 1) = false := by simp; omega
  have hk3 : decide (16 < dz) = false := by simp; omega
  go_enter Try.func37, Try.ntmps37
  go_wp2_with fail
  refine (rfnum_any _ rb A cap bs at' 1 B (64 - (k : Int) - 1) 1 rfl HN1.out.st (HY.out _ HN1.out.only) hB (by omega) (by omega) hl (by omega)).mono ?_
  rintro e w2 ⟨v, er, rfl, ho2, hst2, hcase⟩
  have hN2 := HN1.out.move h0 ho2 hst2
  have HN2 : Hid (NdSt w w2 rb A cap bs ((at' + 1 : Nat) : Int) (64 - (k : Int) - 1) (er : Int) 0 0 ⟨#[]⟩ (.slice none 0 0)) := hN2
  clear HN1 hst2 ho2 c0 c1 c2 c3 g1 g2 g3 hy
  have hne : ¬ bs.length < at' + 1 := fun hq => by have := congrArg List.length hxz; simp at this; omega
  obtain ⟨hs, hv, rfl⟩ : at' + 1 ≤ bs.length ∧ v = unBe ((bs.drop at').take 1) ∧ er = 0 := by rcases hcase with ⟨h1, _⟩ | h; exact absurd h1 hne; exact h
  have hzs : bs.drop (at' + 1) = zs := by rw [← List.drop_drop, hxz]; rfl
  have hv2 : v = x.toNat := by rw [hv, hxz]; simp [unBe]
  have HK0 : Hid (tk (f + 1) k (bs.drop at') = tkH (tk f) x.toNat (k + 1) zs) := by show _ = _; rw [hxz, tk, if_neg (by omega)]
  have Hzs : Hid (bs.drop (at' + 1) = zs) := hzs
  subst hv2
  clear hv hzs hxz hcase hne
  generalize x.toNat = h at *
  have HN3 : Hid (NdSt w (w2.setCell ⟨w.heap.size + 1, 0, none⟩ (.int .i64 (h : Int))) rb A cap bs ((at' + 1 : Nat) : Int) (64 - (k : Int) - 1) 0 (h : Int) 0 ⟨#[]⟩ (.slice none 0 0)) := HN2.out.kind h0 _
  obtain ⟨_, ⟨_, c0, c1, c2, c3, g1, g2, g3⟩, t0, t1, t2, t3, tf, _, _, _, _, _, sz⟩ := hN2
  have tf0 := tf 0
  clear tf HN2
  subst hx
  · have HK : Hid (tk (f + 1) k (bs.drop at') = aboveR (tk f) 7 2 (k + 1) zs) := by show _ = _; rw [HK0.out, tkH, if_neg (by decide), if_neg (by decide), if_neg (by decide), if_pos (by decide)]; rfl
    go_wp2_with fail
    clear c0 c1 c2 c3 g1 g2 g3 t0 t1 t2 t3 tf0
    go_loopw [8] (fun iv wr => RkRel w f rb A cap bs 7 2 k zs iv wr) (fun iv _ => 2 - (intOf iv).toNat)
    case atStart =>
      refine .inl ⟨[], k + 1, at' + 1, .slice none 0 0, rfl, by simp, by omega, by omega, ?_, ?_, World.ownsRow_nil _ _ _ _, by simp⟩
      · rw [Hzs.out]; show kidsG (tk f) 2 (k + 1) zs = addK [] (kidsG (tk f) (2 - 0) (k + 1) zs)
        rw [Nat.sub_zero]; cases kidsG (tk f) 2 (k + 1) zs <;> rfl
      · have := HN3.out; rwa [show (64 : Int) - (k : Int) - 1 = 64 - ((k + 1 : Nat) : Int) from by omega] at this
    case round =>
      clear HN3
      rcases hrel with ⟨ks, k', at2, kv, rfl, hks, hk', hat2, hrun, hN, hown, hoks⟩ | ⟨i, er, at2, left, K, len, cc, rfl, hic, her1, her4, hrun, hN⟩
      · have HRUN : Hid (kidsG (tk f) 2 (k + 1) zs = addK ks (kidsG (tk f) (2 - ks.length) k' (bs.drop at2))) := hrun
        have HN4 : Hid (NdSt w wr rb A cap bs (at2 : Int) (64 - (k' : Int)) 0 7 0 ⟨#[]⟩ kv) := hN
        have HOW : Hid (wr.ownsRow (w.heap.size + 2) 30 4 kv ks.length (rowOf ks)) := hown
        have HKS : Hid (∀ q ∈ ks, q.Ok wr (fun b => w.heap.size + 2 ≤ b ∧ b < wr.heap.size ∧ kv.ownBlock ≠ some b)) := hoks
        obtain ⟨K, cc, rfl⟩ := owns_slice hown
        have hbk := hown.lt
        clear hrun hown hoks
        obtain ⟨_, ⟨_, c0, c1, c2, c3, _, _, _⟩, t0, t1, t2, t3, tf, r0, r1, r2, r3, rf, sz⟩ := hN
        have szr : w.heap.size < wr.heap.size := by omega
        by_cases hlt : ks.length < 2
        · have hlt' : decide ((ks.length : Int) < 2) = true := by simp; omega
          have tf3 := tf 3
          clear tf rf
          have N1 : Hid (Calls Try.prog 37 #[.pointer (some ⟨rb, 0, none⟩), .int .i64 (dz + 1)] wr.drew fun e w' => RfEnd wr.drew rb A cap bs (tk f k' (bs.drop at2)) e w') :=
            ih wr.drew rb A cap bs at2 k' B (dz + 1) (by have := HDZ.out; omega) (HN4.out.st.keep (Below.drew (Below.refl _ _))) (HY.out _ HN4.out.only.drew) hB hk' hat2 hl hlc hcm
          go_wp2_with fail
          clear c0 c1 c2 c3 t0 t1 t2 r0 r1 r2 r3
          refine wp_region_until (S := fun w' => w'.cell? ⟨w.heap.size + 1, 3, none⟩ = some (.slice K ks.length cc)) (j := 7) (by kernel_rfl) ?_
          refine wpAnyU_pure (i := 0) (oi := { dst := some 161, op := Op.fieldAddr 30 (Operand.tmp 5) 3, type := 0, pos := "ref.go:101", after := #[], guard := none }) (v := ?v0) rfl (by kernel_rfl) (by kernel_rfl) (by kernel_rfl) (by decide) (fun _ _ _ h => h) (Or.inl ⟨by rfl, ?y0⟩) (fun _ => t3) ?r0
          case y0 => (intro w _; go_simp <;> with_reducible rfl)
          try simp only [Act.put, List.setIfInBounds_toArray, List.set_cons_zero, List.set_cons_succ]
          refine wpAnyU_pure (i := 2) (oi := { dst := some 163, op := Op.move (Operand.tmp 0), type := 62, pos := "ref.go:101", after := #[], guard := none }) (v := ?v2) rfl (by kernel_rfl) (by kernel_rfl) (by kernel_rfl) (by decide) (fun _ _ _ h => h) (Or.inl ⟨by rfl, ?y2⟩) (fun _ => t3) ?r2
          case y2 => (intro w _; go_simp <;> with_reducible rfl)
          try simp only [Act.put, List.setIfInBounds_toArray, List.set_cons_zero, List.set_cons_succ]
          refine wpAnyU_pure (i := 3) (oi := { dst := some 164, op := Op.move (Operand.tmp 1), type := 3, pos := "ref.go:101", after := #[], guard := none }) (v := ?v3) rfl (by kernel_rfl) (by kernel_rfl) (by kernel_rfl) (by decide) (fun _ _ _ h => h) (Or.inl ⟨by rfl, ?y3⟩) (fun _ => t3) ?r3
          case y3 => (intro w _; go_simp <;> with_reducible rfl)
          try simp only [Act.put, List.setIfInBounds_toArray, List.set_cons_zero, List.set_cons_succ]
          refine wpAnyU_pure (i := 4) (oi := { dst := some 165, op := Op.binOp BinOp.add 3 (Operand.tmp 164) (Operand.const (Value.int IntKind.i64 1)) 3, type := 3, pos := "ref.go:101", after := #[{ on := 3, ground := Ground.data }], guard := none }) (v := ?v4) rfl (by kernel_rfl) (by kernel_rfl) (by kernel_rfl) (by decide) (fun _ _ _ h => h) (Or.inl ⟨by rfl, ?y4⟩) (fun _ => t3) ?r4
          case y4 => (intro w _; go_simp <;> with_reducible rfl)
          try simp only [Act.put, List.setIfInBounds_toArray, List.set_cons_zero, List.set_cons_succ]
          refine wpAnyU_load (i := 1) (oi := { dst := some 162, op := Op.load 24 (Operand.tmp 161), type := 24, pos := "ref.go:101", after := #[{ on := 0, ground := Ground.data }], guard := none }) (oj := { dst := some 168, op := Op.call { callee := Callee.builtin Builtin.append, args := #[Operand.tmp 162, Operand.tmp 167], argTypes := #[24, 24] }, type := 24, pos := "ref.go:101", after := #[{ on := 1, ground := Ground.data }, { on := 6, ground := Ground.data }, { on := 5, ground := Ground.chain }], guard := none }) (v := ?v1) rfl rfl (by kernel_rfl) (by kernel_rfl) (by kernel_rfl) (by decide) (by kernel_rfl) (by kernel_rfl) (fun _ _ _ h => h) (Or.inl ⟨by rfl, ?y1⟩) t3 ?r1
          case y1 => (intro w hSw; (try dsimp only at hSw); go_simp <;> with_reducible rfl)
          try simp only [Act.put, List.setIfInBounds_toArray, List.set_cons_zero, List.set_cons_succ]
          refine wpAnyU_one (i := 5) (o := { dst := some 166, op := Op.call { callee := Callee.value (Operand.func 37), args := #[Operand.tmp 163, Operand.tmp 165], argTypes := #[62, 3] }, type := 30, pos := "ref.go:101", after := #[{ on := 2, ground := Ground.data }, { on := 4, ground := Ground.data }], guard := none }) (by kernel_rfl) rfl (fun K' hK => ?_)
          go_simp
          rw [wrap_in _ (by omega) (by omega)]
          refine (N1.out).mono ?_
          clear N1
          rintro e w5 hE
          obtain ⟨k0, n0, s0, K0, len0, c9, rfl, ho5, hcase⟩ := rf_end_any hE
          have HC : Hid _ := hcase
          clear hE hcase
          have t35 : w5.cell? ⟨w.heap.size + 1, 3, none⟩ = some (.slice K ks.length cc) := (ho5.cell (by show w.heap.size + 1 < wr.heap.size; omega) (by simp; omega)).trans t3
          have tf5 : w5.frozen? ⟨w.heap.size + 1, 3, none⟩ = false := (ho5.frozen (by show w.heap.size + 1 < wr.heap.size; omega) (by simp; omega)).trans tf3
          have sz5 : wr.heap.size ≤ w5.heap.size := ho5.size
          go_wp2_with fail
          refine hK.out _ _ (fun _ => t35) ?_
          clear hK K'
          try simp only [Act.put, List.setIfInBounds_toArray, List.set_cons_zero, List.set_cons_succ]
          refine wpAnyU_one (i := 6) (o := { dst := some 167, op := Op.buildSlice 24 1 #[(0, Operand.tmp 166)], type := 24, pos := "ref.go:101", after := #[{ on := 5, ground := Ground.data }], guard := none }) (by kernel_rfl) rfl (fun K' hK => ?_)
          go_wp2_with fail
          refine hK.out _ _ (fun _ => by rw [World.cell?_alloc_lt _ _ _ (by show w.heap.size + 1 < w5.heap.size; omega)]; exact t35) ?_
          clear hK K'
          try simp only [Act.put, List.setIfInBounds_toArray, List.set_cons_zero, List.set_cons_succ]
          refine wpAnyU_one (i := 7) (o := { dst := some 168, op := Op.call { callee := Callee.builtin Builtin.append, args := #[Operand.tmp 162, Operand.tmp 167], argTypes := #[24, 24] }, type := 24, pos := "ref.go:101", after := #[{ on := 1, ground := Ground.data }, { on := 6, ground := Ground.data }, { on := 5, ground := Ground.chain }], guard := none }) (by kernel_rfl) rfl (fun K' hK => ?_)
          refine step_append_any _ (by rfl) _ _ 24 (by rfl) (w.heap.size + 2) 30 i5 (.agg #[.int .i64 0, .int .i64 0, .string ⟨#[]⟩, .slice none 0 0]) 4 56 Try.underlying24 hi hz0 hz1 hz2 rfl (by decide) (.slice K ks.length cc) ks.length (rowOf ks) (by rfl) ?own (some ⟨w5.heap.size, 0, none⟩) 1 1 [.int .i64 k0, .int .i64 n0, .string s0, .slice K0 len0 c9] (by rfl) ?src ?c3 ?c4 ?c5 ?_
          case own => exact (owns_of HOW.out (fun q hq => ho5.block q (by have := hbk q hq; show q < wr.heap.size; omega) (by have := hbk q hq; omega))).alloc _
          case src => exact .inr ⟨_, rfl, rfl, World.news_of_block (t := 30) (fr := (0, 0)) (heap_alloc_new w5 _), by simp [Value.oneCell']⟩
          case c3 => unfold maxLen; omega
          case c4 => omega
          case c5 => simp; omega
          intro v7 w7 hown7 hgrow7 hat7
          have hs7 := hgrow7.size
          simp only [World.heap_size_alloc'] at hs7 hat7
          have hg57 : w5.grownBy w7 (Value.slice K ks.length cc).ownBlock := ⟨hgrow7.os, hgrow7.tape, hgrow7.output, by omega, fun q hq hne => by rw [hgrow7.block q (by simp; omega) hne, Below.heap_alloc _ _ _ hq]⟩
          have hT7 : w7.heap[w.heap.size + 1]? = w5.heap[w.heap.size + 1]? := hg57.block _ (by omega) (fun e => by have := hbk _ e.symm; omega)
          have t37 : w7.cell? ⟨w.heap.size + 1, 3, none⟩ = some (.slice K ks.length cc) := (World.cell?_of_block hT7).trans t35
          have tf7 : w7.frozen? ⟨w.heap.size + 1, 3, none⟩ = false := (World.frozen?_of_block hT7).trans tf5
          have sz7 : w.heap.size + 1 < w7.heap.size := by omega
          obtain ⟨K7, cc7, rfl⟩ := owns_slice hown7
          have O7 : Hid (w7.ownsRow (w.heap.size + 2) 30 4 (.slice K7 (ks.length + 1) cc7) (ks.length + 1) (rowOf ks ++ [.int .i64 k0, .int .i64 n0, .string s0, .slice K0 len0 c9])) := hown7
          have HAT : Hid ((Value.slice K7 (ks.length + 1) cc7).ownBlock = (Value.slice K ks.length cc).ownBlock ∨ ∃ q, (Value.slice K7 (ks.length + 1) cc7).ownBlock = some q ∧ w5.heap.size ≤ q) := by
            rcases hat7 with h | h
            · exact .inl h
            · exact .inr ⟨_, h, by omega⟩
          clear hown7 hat7 hgrow7 t3 t35 tf5 tf3
          refine hK.out _ _ (fun h => not_until (by kernel_rfl) h) ?_
          clear hK K'
          try simp only [Act.put, List.setIfInBounds_toArray, List.set_cons_zero, List.set_cons_succ]
          refine wpAnyU_pure (i := 8) (oi := { dst := some 169, op := Op.fieldAddr 30 (Operand.tmp 5) 3, type := 0, pos := "ref.go:101", after := #[{ on := 0, ground := Ground.phase }, { on := 1, ground := Ground.phase }, { on := 2, ground := Ground.phase }, { on := 3, ground := Ground.phase }, { on := 4, ground := Ground.phase }, { on := 5, ground := Ground.phase }, { on := 6, ground := Ground.phase }, { on := 7, ground := Ground.phase }], guard := none }) (v := ?v8) rfl (by kernel_rfl) (by kernel_rfl) (by kernel_rfl) (by decide) (fun _ _ _ h => h) (Or.inl ⟨by rfl, ?y8⟩) (fun h => not_until (by kernel_rfl) h) ?r8
          case y8 => (intro w _; go_simp <;> with_reducible rfl)
          try simp only [Act.put, List.setIfInBounds_toArray, List.set_cons_zero, List.set_cons_succ]
          refine wpAnyU_one (i := 9) (o := { dst := none, op := Op.store 24 (Operand.tmp 169) (Operand.tmp 168), type := 0, pos := "ref.go:101", after := #[{ on := 8, ground := Ground.data }, { on := 7, ground := Ground.data }, { on := 7, ground := Ground.chain }, { on := 0, ground := Ground.phase }, { on := 1, ground := Ground.phase }, { on := 2, ground := Ground.phase }, { on := 3, ground := Ground.phase }, { on := 4, ground := Ground.phase }, { on := 5, ground := Ground.phase }, { on := 6, ground := Ground.phase }, { on := 7, ground := Ground.phase }], guard := none }) (by kernel_rfl) rfl (fun K' hK => ?_)
          refine step_store (by rfl) 24 _ _ (by rfl) ⟨w.heap.size + 1, 3, none⟩ K7 (ks.length + 1) cc7 (by rfl) (by rfl) _ t37 tf7 sizeOf_terms ?_
          refine hK.out _ _ (fun h => not_until (by kernel_rfl) h) ?_
          clear hK K'
          try simp only [Act.put, List.setIfInBounds_toArray, List.set_cons_zero, List.set_cons_succ]
          refine wpAnyU_done (by kernel_rfl) ?_ _
          clear t37 tf7
          go_wp2_with fail
          go_roundw
          case rel => exact rk_next h0 hf hk' hlt HRUN.out HN4.out HKS.out hbk ho5 HC.out O7.out hg57 HAT.out
          case measure => simp [intOf]; omega
        · have hlt' : decide ((ks.length : Int) < 2) = false := by simp; omega
          have hkc : ks.length = 2 := by omega
          have rf0 := rf 0
          have rf1 := rf 1
          have rf2 := rf 2
          have rf3 := rf 3
          clear tf rf
          have HT2 : Hid (tk (f + 1) k (bs.drop at') = .ok (ndK 7, foOf ks .nil, k', bs.drop at2)) := by
            show _ = _
            rw [HK.out, aboveR, HRUN.out, hkc, Nat.sub_self, kidsG]; rfl
          have HKC : Hid (ks.length = 2) := hkc
          clear hkc
          go_wp2_with fail
          refine bodyPost_ret (v := .agg #[.int .i64 7, .int .i64 0, .string ⟨#[]⟩, .slice K ks.length cc]) (by simp [results, Try.results37, go_sem, r0, r1, r2, r3]) rfl ?_
          have hfin := HN4.out.done h0
          refine rf_ok (at' := at2) HT2.out (hfin _ _ _ _).1 (hfin _ _ _ _).2 hat2 rfl ?_
          have hown := HOW.out
          rcases hown.2 with ⟨_, hz0⟩ | ⟨g, gcap, cur, hgv, hg1, hg2, _⟩
          · have := HKC.out; omega
          · injection hgv with hgK _ hgc
            have hg3 := hown.lt g (by rw [hgK]; rfl)
            refine ⟨fit_leaf 7 0 _ (by omega) (by omega) (by decide), K, cc, g, 0, by rw [flen_foOf]; rfl, by rw [flen_foOf]; omega, .inr hgK, ?_⟩
            refine RepG.keep (S := fun b => w.heap.size + 2 ≤ b ∧ b < wr.heap.size) (fun b hb => ⟨by omega, by rw [size_set4']; exact hb.2⟩) (fun b o hb => cell_set4 _ _ _ _ _ _ _ _ (by omega)) ?_
            exact rep_of_row ⟨hg1, hg3.2⟩ ks 0 (fun q hq => (HKS.out q hq).keep (fun b hb => ⟨hb.1, hb.2.1⟩) (fun _ _ _ => rfl)) (fun j hj => by rw [Nat.zero_add]; have := World.ownsRow.cellAt (hgK ▸ hown) j (by omega); exact this)
      · have HT2 : Hid (tk (f + 1) k (bs.drop at') = .error er) := by show _ = _; rw [HK.out, aboveR, hrun]
        have HN4 : Hid (NdSt w wr rb A cap bs at2 left (er : Int) 7 0 ⟨#[]⟩ (.slice K len cc)) := hN
        obtain ⟨_, ⟨_, c0, c1, c2, c3, _, _, _⟩, t0, t1, t2, t3, tf, r0, r1, r2, r3, rf, sz⟩ := hN
        have rf0 := rf 0
        have rf1 := rf 1
        have rf2 := rf 2
        have rf3 := rf 3
        have szr : w.heap.size < wr.heap.size := by omega
        have hez : ((er : Int) == 0) = false := by simp; omega
        clear tf rf hrun
        by_cases hlt : i < 2
        · have hlt' : decide ((i : Int) < 2) = true := by simp; omega
          go_wp2_with fail
          refine bodyPost_ret (v := .agg #[.int .i64 7, .int .i64 0, .string ⟨#[]⟩, .slice K len cc]) (by simp [results, Try.results37, go_sem, r0, r1, r2, r3]) rfl ?_
          have hfin := HN4.out.done h0
          exact rf_err HT2.out (hfin _ _ _ _).1 (hfin _ _ _ _).2
        · have hlt' : decide ((i : Int) < 2) = false := by simp; omega
          go_wp2_with fail
          refine bodyPost_ret (v := .agg #[.int .i64 7, .int .i64 0, .string ⟨#[]⟩, .slice K len cc]) (by simp [results, Try.results37, go_sem, r0, r1, r2, r3]) rfl ?_
          have hfin := HN4.out.done h0
          exact rf_err HT2.out (hfin _ _ _ _).1 (hfin _ _ _ _).2

/-- A node with kids. -/
theorem rnode_kids (f : Nat) (hf : f ≤ 15) (ih : RNodeOk f) (w : World) (rb : Nat) (A : Option Addr) (cap : Nat) (bs : List UInt8) (at' k B : Nat) (dz : Int) (hdz : dz = 17 - ((f + 1 : Nat) : Int)) (hR : RfSt w rb A cap bs (at' : Int) (64 - (k : Int)) 0) (hy : ByAt w B A bs) (hB : B ≤ rb) (hk : k ≤ 64) (ha : at' ≤ bs.length) (hl : bs.length ≤ 100000) (hlc : bs.length ≤ cap) (hcm : cap ≤ maxLen)
    (x : UInt8) (zs : List UInt8) (hxz : bs.drop at' = x :: zs) (h3 : 3 ≤ x.toNat) (h7 : x.toNat ≤ 7) :
    Calls Try.prog 37 #[.pointer (some ⟨rb, 0, none⟩), .int .i64 dz] w fun e w' => RfEnd w rb A cap bs (tk (f + 1) k (bs.drop at')) e w' := by
  have h : x.toNat = 3 ∨ x.toNat = 4 ∨ x.toNat = 5 ∨ x.toNat = 6 ∨ x.toNat = 7 := by omega
  rcases h with h | h | h | h | h
  · exact rnode_kids3 f hf ih w rb A cap bs at' k B dz hdz hR hy hB hk ha hl hlc hcm x zs hxz h
  · exact rnode_kids4 f hf ih w rb A cap bs at' k B dz hdz hR hy hB hk ha hl hlc hcm x zs hxz h
  · exact rnode_kids5 f hf ih w rb A cap bs at' k B dz hdz hR hy hB hk ha hl hlc hcm x zs hxz h
  · exact rnode_kids6 f hf ih w rb A cap bs at' k B dz hdz hR hy hB hk ha hl hlc hcm x zs hxz h
  · exact rnode_kids7 f hf ih w rb A cap bs at' k B dz hdz hR hy hB hk ha hl hlc hcm x zs hxz h

end Go.Proofs.Ytooffmmfacdjeaa
