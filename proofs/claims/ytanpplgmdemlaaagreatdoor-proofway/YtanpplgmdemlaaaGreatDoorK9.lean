import Derived.Test.YtanpplgmdemlaaaGreatDoorKB
namespace Go.Proofs.YtanpplgmdemlaaaGreatDoor
open Go.RowKit
set_option linter.unusedVariables false
set_option linter.unusedSimpArgs false

def LRel (w : World) (B : Nat) (lv : Value) (f : Fo) (b' o' : Nat) (L0 : List (Nd × Fo)) (N : Nat) (iv : Value) (wr : World) : Prop :=
  ∃ (i : Nat) (g : Fo) (ks' : List Kd) (lv' : Value), iv = .int .i64 (i : Int) ∧ i + flen g = flen f ∧ AllF LOk g ∧ DMay g ∧ RepF wr B g b' (o' + i * 4) ∧ LSt wr B lv' ks' ∧ LGrew B w wr lv lv' ∧ learnG 0 g (tms ks') = learnG 0 f L0 ∧ ks'.length + nodesF g ≤ N + nodesF f

set_option maxRecDepth 100000 in
set_option maxHeartbeats 4000000 in
theorem learn_step (a : Nd) (l : Fo) (ih : AllF LOk l) : LOk a l := by
  rintro v B w lv ks ⟨hf, A, cap, b, o, rfl, hn, hA, hr⟩ hm hkl hd hst hN htab
  have HA : Hid (flen l = 0 ∨ A = some ⟨b, o, none⟩) := hA
  have HR : Hid (RepF w B l b o) := hr
  have HM : Hid (may a l = true ∧ DMay l) := ⟨hm, hd⟩
  have HST : Hid (LSt w B lv ks) := hst
  have HTB : Hid (Tab10 B w) := htab
  have hBw : B + 4 ≤ w.heap.size := hst.sz
  have hvk := hst.own.lt
  clear hA hr hm hd hst htab
  obtain ⟨i5, hi, hz0, hz1, hz2⟩ := info_get Tryz.infoTerm
  have hbA : Below w.heap.size w (w.alloc (.cells #[.int .i64 a.kind, .int .i64 a.n, .string a.s, .slice A (flen l) cap] 27)) := Below.alloc (Below.refl _ _) (Nat.le_refl _) _
  go_enter Tryz.func56, Tryz.ntmps56
  go_wp2_with fail
  refine (key_any a l _ _ ⟨hf, A, cap, b, o, rfl, hn, HA.out, RepF.keep (w := w) (by simp; omega) (fun q j hq => hbA.cell (by simp; omega)) HR.out⟩ hkl (fun w' hb => HTB.out w' ((hbA.mono (by omega)).trans (hb.mono (by simp; omega))))).mono ?_
  rintro e w1 ⟨rfl, hb1⟩
  have hbw : Below w.heap.size w w1 := hbA.trans (hb1.mono (by simp))
  have HS1 : Hid (LSt w1 B lv ks) := HST.out.below hbw
  obtain ⟨x0, x1, x2, x3, x4⟩ : Box4 w1 w.heap.size (.int .i64 a.kind) (.int .i64 a.n) (.string a.s) (.slice A (flen l) cap) := (Box4.new w _ _ _ _ _).below hb1
  have c2 := HS1.out.c2
  by_cases hin : keyT a l ∈ (tms ks).map (fun x => keyT x.1 x.2)
  · have hlk := run_known HS1.out.ms (keyS a l) true (by simp only [true_iff]; exact (mem_keys ks a l).2 hin)
    have HIN : Hid (keyT a l ∈ (tms ks).map (fun x => keyT x.1 x.2)) := hin
    clear hin
    generalize keyS a l = S at *
    go_wp2_with fail
    refine bodyPost_ret (v := .tuple #[]) (by simp [results, Tryz.results56]) rfl ?_
    exact ⟨lv, ks, rfl, HS1.out, (LGrew.refl B w lv).below hbw, by rw [learnT, if_pos HIN.out], by omega⟩
  · have hno : keyS a l ∉ (ks.map fun k => keyS k.a k.l) := fun h => hin ((mem_keys ks a l).1 h)
    have hlk := run_known HS1.out.ms (keyS a l) false (by simp only [Bool.false_eq_true, false_iff]; exact hno)
    obtain ⟨w2, hmk, hms2, ho2⟩ := run_mark HS1.out.ms (keyS a l) hno
    have HIN : Hid (keyT a l ∉ (tms ks).map (fun x => keyT x.1 x.2)) := hin
    have HMS : Hid (MapS w2 (B + 1) (keyS a l :: ks.map fun k => keyS k.a k.l)) := hms2
    clear hin hno hms2
    generalize hSk : keyS a l = S at *
    have HSK : Hid (keyS a l = S) := hSk
    clear hSk
    have hs1 := hbw.size
    have d0 : w2.cell? ⟨B, 0, none⟩ = some lv := (ho2.cell (by simp; omega) (by simp)).trans HS1.out.c0
    have df : w2.frozen? ⟨B, 0, none⟩ = false := (ho2.frozen (by simp; omega) (by simp)).trans HS1.out.f0
    have d3 := (ho2.cell (q := ⟨B + 3, 0, none⟩) (by simp; omega) (by simp)).trans HS1.out.c3
    have hbx : ∀ j, w2.cell? ⟨w.heap.size, j, none⟩ = w1.cell? ⟨w.heap.size, j, none⟩ := fun j => ho2.cell (by simpa using x0) (by simp; omega)
    have y1 := (hbx 0).trans x1
    have y2 := (hbx 1).trans x2
    have y3 := (hbx 2).trans x3
    have y4 := (hbx 3).trans x4
    have xx1 := x1
    have xx2 := x2
    have xx3 := x3
    have xx4 := x4
    clear hbx x1 x2 x3 x4
    have hlv : ∃ LA lc, lv = .slice LA ks.length lc := by
      rcases HS1.out.own.2 with ⟨h1, h2⟩ | ⟨g, cap, cur, h1, _⟩
      · exact ⟨none, 0, by rw [h1, h2]⟩
      · exact ⟨_, cap, h1⟩
    obtain ⟨LA, lc, rfl⟩ := hlv
    have hSS : w2.cell? ⟨B, 0, none⟩ = some (.slice LA ks.length lc) ∧ w2.cell? ⟨w.heap.size, 0, none⟩ = some (.int .i64 a.kind) ∧ w2.cell? ⟨w.heap.size, 1, none⟩ = some (.int .i64 a.n) ∧ w2.cell? ⟨w.heap.size, 2, none⟩ = some (.string a.s) ∧ w2.cell? ⟨w.heap.size, 3, none⟩ = some (.slice A (flen l) cap) := ⟨d0, y1, y2, y3, y4⟩
    go_wp2_with fail
    refine wp_region_until (S := fun w' => w'.cell? ⟨B, 0, none⟩ = some (.slice LA ks.length lc) ∧ w'.cell? ⟨w.heap.size, 0, none⟩ = some (.int .i64 a.kind) ∧ w'.cell? ⟨w.heap.size, 1, none⟩ = some (.int .i64 a.n) ∧ w'.cell? ⟨w.heap.size, 2, none⟩ = some (.string a.s) ∧ w'.cell? ⟨w.heap.size, 3, none⟩ = some (.slice A (flen l) cap)) (j := 4) (by kernel_rfl) ?_
    refine wpAnyU_load (i := 0) (oi := { dst := some 15, op := Op.load 24 (Operand.tmp 2), type := 24, pos := "know.go:56", after := #[], guard := none }) (oj := { dst := some 19, op := Op.call { callee := Callee.builtin Builtin.append, args := #[Operand.tmp 15, Operand.tmp 18], argTypes := #[24, 24] }, type := 24, pos := "know.go:56", after := #[{ on := 0, ground := Ground.data }, { on := 3, ground := Ground.data }, { on := 0, ground := Ground.phase }, { on := 1, ground := Ground.phase }, { on := 2, ground := Ground.phase }, { on := 3, ground := Ground.phase }], guard := none }) (v := ?v0) rfl rfl (by kernel_rfl) (by kernel_rfl) (by kernel_rfl) (by decide) (by kernel_rfl) (by kernel_rfl) (fun _ _ _ h => h) (Or.inl ⟨by rfl, ?y0⟩) hSS ?r0
    case y0 => (intro w hSw; (try dsimp only at hSw); go_simp <;> with_reducible rfl)
    try simp only [Act.put, List.setIfInBounds_toArray, List.set_cons_zero, List.set_cons_succ]
    refine wpAnyU_load (i := 1) (oi := { dst := some 16, op := Op.load 27 (Operand.tmp 4), type := 27, pos := "know.go:56", after := #[], guard := none }) (oj := { dst := some 19, op := Op.call { callee := Callee.builtin Builtin.append, args := #[Operand.tmp 15, Operand.tmp 18], argTypes := #[24, 24] }, type := 24, pos := "know.go:56", after := #[{ on := 0, ground := Ground.data }, { on := 3, ground := Ground.data }, { on := 0, ground := Ground.phase }, { on := 1, ground := Ground.phase }, { on := 2, ground := Ground.phase }, { on := 3, ground := Ground.phase }], guard := none }) (v := ?v1) rfl rfl (by kernel_rfl) (by kernel_rfl) (by kernel_rfl) (by decide) (by kernel_rfl) (by kernel_rfl) (fun _ _ _ h => h) (Or.inl ⟨by rfl, ?y1⟩) hSS ?r1
    case y1 => (intro w hSw; (try dsimp only at hSw); go_simp <;> with_reducible rfl)
    try simp only [Act.put, List.setIfInBounds_toArray, List.set_cons_zero, List.set_cons_succ]
    refine wpAnyU_pure (i := 2) (oi := { dst := some 17, op := Op.call { callee := Callee.builtin Builtin.len, args := #[Operand.tmp 15], argTypes := #[24] }, type := 3, pos := "know.go:56", after := #[{ on := 0, ground := Ground.data }], guard := none }) (v := ?v2) rfl (by kernel_rfl) (by kernel_rfl) (by kernel_rfl) (by decide) (fun _ _ _ h => h) (Or.inl ⟨by rfl, ?y2⟩) (fun _ => hSS) ?r2
    case y2 => (intro w _; go_simp <;> with_reducible rfl)
    try simp only [Act.put, List.setIfInBounds_toArray, List.set_cons_zero, List.set_cons_succ]
    refine wpAnyU_one (i := 3) (o := { dst := some 18, op := Op.buildSlice 24 1 #[(0, Operand.const (Value.agg #[Value.int IntKind.i64 0, Value.int IntKind.i64 0, Value.string { data := #[] }, Value.slice none 0 0]))], type := 24, pos := "know.go:56", after := #[], guard := none }) (by kernel_rfl) rfl (fun K' hK => ?_)
    rw [if_pos (by rfl)]
    go_wp2_with fail
    have hal : Below w2.heap.size w2 (w2.drew.alloc (.cells #[.int .i64 0, .int .i64 0, .string ⟨#[]⟩, .slice none 0 0] 27)) := Below.alloc (Below.drew (Below.refl _ _)) (Nat.le_refl _) _
    have hs2 : w1.heap.size ≤ w2.heap.size := ho2.size
    refine hK.out _ _ (fun _ => ⟨(hal.cell (by simp; omega)).trans d0, (hal.cell (by simp; omega)).trans y1, (hal.cell (by simp; omega)).trans y2, (hal.cell (by simp; omega)).trans y3, (hal.cell (by simp; omega)).trans y4⟩) ?_
    clear hK K'
    try simp only [Act.put, List.setIfInBounds_toArray, List.set_cons_zero, List.set_cons_succ]
    refine wpAnyU_one (i := 4) (o := { dst := some 19, op := Op.call { callee := Callee.builtin Builtin.append, args := #[Operand.tmp 15, Operand.tmp 18], argTypes := #[24, 24] }, type := 24, pos := "know.go:56", after := #[{ on := 0, ground := Ground.data }, { on := 3, ground := Ground.data }, { on := 0, ground := Ground.phase }, { on := 1, ground := Ground.phase }, { on := 2, ground := Ground.phase }, { on := 3, ground := Ground.phase }], guard := none }) (by kernel_rfl) rfl (fun K' hK => ?_)
    refine step_append_any _ (by rfl) _ _ 24 (by rfl) (B + 4) 27 i5 (.agg #[.int .i64 0, .int .i64 0, .string ⟨#[]⟩, .slice none 0 0]) 4 56 Tryz.underlying24 hi hz0 hz1 hz2 rfl (by decide) (.slice LA ks.length lc) ks.length (rowOf ks) (by rfl) ?own (some ⟨w2.heap.size, 0, none⟩) 1 1 [.int .i64 0, .int .i64 0, .string ⟨#[]⟩, .slice none 0 0] (by rfl) ?src ?c3 ?c4 ?c5 ?_
    case own => exact (World.ownsRow.drew (owns_of HS1.out.own (fun q hq => ho2.block q (by have := HS1.out.own.lt q hq; omega) (by have := HS1.out.own.lt q hq; omega)))).alloc _
    case src => exact .inr ⟨_, rfl, rfl, World.news_of_block (t := 27) (fr := (0, 0)) (heap_alloc_new w2.drew _), by simp [Value.oneCell']⟩
    case c3 => unfold maxLen; omega
    case c4 => omega
    case c5 => simp; omega
    intro v5 w5 hown5 hgrow5 hat5
    obtain ⟨g, cap5, rfl, hg4, hg5⟩ : ∃ g cap5, v5 = .slice (some ⟨g, 0, none⟩) (ks.length + 1) cap5 ∧ B + 4 ≤ g ∧ g < w5.heap.size := by
      rcases hown5.2 with ⟨_, h0⟩ | ⟨g, c, cur, h1, h2, _⟩
      · omega
      · exact ⟨g, c, h1, h2, (hown5.lt g (by rw [h1]; rfl)).2⟩
    have hs5 : w2.heap.size + 1 ≤ w5.heap.size := by have := hgrow5.size; simpa using this
    have hblk : ∀ q, q < w2.heap.size → (Value.slice LA ks.length lc).ownBlock ≠ some q → w5.heap[q]? = w2.heap[q]? := fun q hq hv => by
      rw [hgrow5.block q (by simp; omega) (fun e => hv e.symm)]; exact Below.heap_alloc _ _ _ hq
    have hnB : ∀ q, q < B + 4 → (Value.slice LA ks.length lc).ownBlock ≠ some q := fun q hq e => by have := hvk q e; omega
    have hnb : (Value.slice LA ks.length lc).ownBlock ≠ some w.heap.size := fun e => by have := hvk _ e; omega
    have gB : g ≠ B := by omega
    have k0 : w5.cell? ⟨g, ks.length * 4, none⟩ = some (.int .i64 0) := by rw [hown5.cellAt _ (by omega), List.getElem?_append_right (by rw [rowOf_length]; omega), rowOf_length, show ks.length * 4 - 4 * ks.length = 0 from by omega]; rfl
    have k1 : w5.cell? ⟨g, ks.length * 4 + 1, none⟩ = some (.int .i64 0) := by rw [hown5.cellAt _ (by omega), List.getElem?_append_right (by rw [rowOf_length]; omega), rowOf_length, show ks.length * 4 + 1 - 4 * ks.length = 1 from by omega]; rfl
    have k2 : w5.cell? ⟨g, ks.length * 4 + 2, none⟩ = some (.string ⟨#[]⟩) := by rw [hown5.cellAt _ (by omega), List.getElem?_append_right (by rw [rowOf_length]; omega), rowOf_length, show ks.length * 4 + 2 - 4 * ks.length = 2 from by omega]; rfl
    have k3 : w5.cell? ⟨g, ks.length * 4 + 3, none⟩ = some (.slice none 0 0) := by rw [hown5.cellAt _ (by omega), List.getElem?_append_right (by rw [rowOf_length]; omega), rowOf_length, show ks.length * 4 + 3 - 4 * ks.length = 3 from by omega]; rfl
    have l0 := hown5.frozenAt (ks.length * 4)
    have l1 := hown5.frozenAt (ks.length * 4 + 1)
    have l2 := hown5.frozenAt (ks.length * 4 + 2)
    have l3 := hown5.frozenAt (ks.length * 4 + 3)
    have m0 : w5.cell? ⟨B, 0, none⟩ = some (.slice LA ks.length lc) := (World.cell?_of_block (hblk B (by omega) (hnB B (by omega)))).trans d0
    have mf : w5.frozen? ⟨B, 0, none⟩ = false := (World.frozen?_of_block (hblk B (by omega) (hnB B (by omega)))).trans df
    have HO5 : Hid (w5.ownsRow (B + 4) 27 4 (.slice (some ⟨g, 0, none⟩) (ks.length + 1) cap5) (ks.length + 1) (rowOf ks ++ [.int .i64 0, .int .i64 0, .string ⟨#[]⟩, .slice none 0 0])) := hown5
    have HAT : Hid ((Value.slice (some ⟨g, 0, none⟩) (ks.length + 1) cap5).ownBlock = (Value.slice LA ks.length lc).ownBlock ∨ w2.heap.size ≤ g) := by
      rcases hat5 with h | h
      · exact .inl h
      · exact .inr (by simp [Value.ownBlock] at h; omega)
    clear hown5 hat5
    refine hK.out _ _ (fun h => not_until (by kernel_rfl) h) ?_
    clear hK K'
    try simp only [Act.put, List.setIfInBounds_toArray, List.set_cons_zero, List.set_cons_succ]
    have hi0 : (0 : Int) ≤ (ks.length : Int) := by omega
    have hi1 : (ks.length : Int) < (ks.length : Int) + 1 := by omega
    refine wpAnyU_pure (i := 5) (oi := { dst := some 20, op := Op.indexAddr 24 (Operand.tmp 19) (Operand.tmp 17), type := 0, pos := "know.go:56", after := #[{ on := 4, ground := Ground.data }, { on := 2, ground := Ground.data }, { on := 0, ground := Ground.phase }, { on := 1, ground := Ground.phase }, { on := 2, ground := Ground.phase }, { on := 3, ground := Ground.phase }, { on := 4, ground := Ground.phase }, { on := 7, ground := Ground.gcOnly Departure.appendInPlace }], guard := none }) (v := ?v5) rfl (by kernel_rfl) (by kernel_rfl) (by kernel_rfl) (by decide) (fun _ _ _ h => h) (Or.inl ⟨by rfl, ?y5⟩) (fun h => not_until (by kernel_rfl) h) ?r5
    case y5 => (intro w _; go_simp <;> with_reducible rfl)
    try simp only [Act.put, List.setIfInBounds_toArray, List.set_cons_zero, List.set_cons_succ]
    refine wpAnyU_two (i := 6) (k := 7) (o := { dst := none, op := Op.store 27 (Operand.tmp 20) (Operand.tmp 16), type := 0, pos := "know.go:56", after := #[{ on := 5, ground := Ground.data }, { on := 1, ground := Ground.data }, { on := 4, ground := Ground.chain }, { on := 0, ground := Ground.phase }, { on := 1, ground := Ground.phase }, { on := 2, ground := Ground.phase }, { on := 3, ground := Ground.phase }, { on := 4, ground := Ground.phase }, { on := 7, ground := Ground.gcOnly Departure.appendInPlace }], guard := none }) (o' := { dst := none, op := Op.store 24 (Operand.tmp 2) (Operand.tmp 19), type := 0, pos := "know.go:56", after := #[{ on := 4, ground := Ground.data }, { on := 4, ground := Ground.chain }, { on := 6, ground := Ground.textOnly Departure.appendInPlace }, { on := 0, ground := Ground.phase }, { on := 1, ground := Ground.phase }, { on := 2, ground := Ground.phase }, { on := 3, ground := Ground.phase }, { on := 4, ground := Ground.phase }, { on := 5, ground := Ground.textOnly Departure.appendInPlace }, { on := 6, ground := Ground.textOnly Departure.appendInPlace }], guard := none }) (by kernel_rfl) rfl rfl (fun K' hK => ?_) (fun K' hK => ?_)
    · rw [if_pos (by rfl)]
      go_wp2_with fail
      refine hK.out _ _ (fun h => not_until (by kernel_rfl) h) ?_
      clear hK K'
      try simp only [Act.put, List.setIfInBounds_toArray, List.set_cons_zero, List.set_cons_succ]
      have hB6 := cell_far4 w5 g (ks.length * 4) (.int .i64 a.kind) (.int .i64 a.n) (.string a.s) (.slice A (flen l) cap) ⟨B, 0, none⟩ (Ne.symm gB)
      have m06 := (World.cell?_of_block hB6).trans m0
      have mf6 := (World.frozen?_of_block hB6).trans mf
      refine wpAnyU_one (i := 7) (o := { dst := none, op := Op.store 24 (Operand.tmp 2) (Operand.tmp 19), type := 0, pos := "know.go:56", after := #[{ on := 4, ground := Ground.data }, { on := 4, ground := Ground.chain }, { on := 6, ground := Ground.textOnly Departure.appendInPlace }, { on := 0, ground := Ground.phase }, { on := 1, ground := Ground.phase }, { on := 2, ground := Ground.phase }, { on := 3, ground := Ground.phase }, { on := 4, ground := Ground.phase }, { on := 5, ground := Ground.textOnly Departure.appendInPlace }, { on := 6, ground := Ground.textOnly Departure.appendInPlace }], guard := none }) (by kernel_rfl) rfl (fun K' hK => ?_)
      refine step_store (by rfl) 24 _ _ (by rfl) ⟨B, 0, none⟩ (some ⟨g, 0, none⟩) (ks.length + 1) cap5 (by rfl) (by rfl) _ m06 mf6 sizeOf_termsK ?_
      refine hK.out _ _ (fun h => not_until (by kernel_rfl) h) ?_
      clear hK K'
      try simp only [Act.put, List.setIfInBounds_toArray, List.set_cons_zero, List.set_cons_succ]
      refine wpAnyU_done (by kernel_rfl) ?_ _
      have hP := putW_A (xs := rowOf ks) (m := ks.length * 4) (u0 := .int .i64 a.kind) (u1 := .int .i64 a.n) (u2 := .string a.s) (u3 := .slice A (flen l) cap) (by rw [rowOf_length]; omega) gB m0 mf HO5.out
      generalize ((((w5.setCell ⟨g, ks.length * 4, none⟩ (.int .i64 a.kind)).setCell ⟨g, ks.length * 4 + 1, none⟩ (.int .i64 a.n)).setCell ⟨g, ks.length * 4 + 2, none⟩ (.string a.s)).setCell ⟨g, ks.length * 4 + 3, none⟩ (.slice A (flen l) cap)).setCell ⟨B, 0, none⟩ (.slice (some ⟨g, 0, none⟩) (ks.length + 1) cap5) = W at *
      have hms2 := HMS.out
      rw [← HSK.out] at hms2
      have hL := learn_put (kd := ⟨0, 0, a, l, A, cap, b, o⟩) HS1.out ho2 hms2 ⟨hgrow5.os, hgrow5.tape, hgrow5.output⟩ hs5 hblk hg4 HAT.out hP ⟨hf, hn, HA.out, (RepF.below (hbw.mono (by omega)) HR.out).toG⟩ HM.out.1
      have HLS : Hid (LSt W B (.slice (some ⟨g, 0, none⟩) (ks.length + 1) cap5) (ks ++ [⟨0, 0, a, l, A, cap, b, o⟩])) := hL.1
      have HLG : Hid (LGrew B w W (.slice LA ks.length lc) (.slice (some ⟨g, 0, none⟩) (ks.length + 1) cap5)) := LGrew.trans ((LGrew.refl B w _).below hbw) hL.2
      have hN1 : w.heap.size < w1.heap.size := x0
      have hbx : W.heap[w.heap.size]? = w1.heap[w.heap.size]? := hL.2.block _ x0 (by omega) (by omega) hnb
      have q1 : W.cell? ⟨w.heap.size, 0, none⟩ = some (.int .i64 a.kind) := (World.cell?_of_block (w := w1) hbx).trans xx1
      have q2 : W.cell? ⟨w.heap.size, 1, none⟩ = some (.int .i64 a.n) := (World.cell?_of_block (w := w1) hbx).trans xx2
      have q3 : W.cell? ⟨w.heap.size, 2, none⟩ = some (.string a.s) := (World.cell?_of_block (w := w1) hbx).trans xx3
      have q4 : W.cell? ⟨w.heap.size, 3, none⟩ = some (.slice A (flen l) cap) := (World.cell?_of_block (w := w1) hbx).trans xx4
      have hBW : Below B w W := HLG.out.toBelow (fun q hq => by have := hvk q hq; omega) (by omega)
      have hsW := HLG.out.size
      clear hL hms2 hbx hP
      go_wp2_with fail
      refine (within_anyK a l _ W B ⟨hf, A, cap, b, o, rfl, hn, HA.out, RepF.keep (Nat.le_refl _) (fun q j hq => hBW.cell hq) HR.out⟩ (by omega) (may_ar a l HM.out.1).1).mono ?_
      rintro e w7 ⟨hb7, A', c', b', o', rfl, hA', hr'⟩
      have hdo : learnG 0 (dropFo (skipOf a.kind) l) (tms (ks ++ [(⟨0, 0, a, l, A, cap, b, o⟩ : Kd)])) = learnT a l (tms ks) := by rw [learnG_drop, learnT, if_neg HIN.out]; simp [tms]
      have hnd := nodes_drop (skipOf a.kind) l
      have HIH : Hid (AllF LOk (dropFo (skipOf a.kind) l)) := AllF.drop _ ih
      have HDM : Hid (DMay (dropFo (skipOf a.kind) l)) := DMay.drop _ HM.out.2
      have HDO : Hid (learnG 0 (dropFo (skipOf a.kind) l) (tms (ks ++ [(⟨0, 0, a, l, A, cap, b, o⟩ : Kd)])) = learnT a l (tms ks)) := hdo
      have HA7 : Hid (flen (dropFo (skipOf a.kind) l) = 0 ∨ A' = some ⟨b', o', none⟩) := hA'
      have HS7 : Hid (LSt w7 B (.slice (some ⟨g, 0, none⟩) (ks.length + 1) cap5) (ks ++ [⟨0, 0, a, l, A, cap, b, o⟩])) := HLS.out.below hb7
      have HG7 : Hid (LGrew B w w7 (.slice LA ks.length lc) (.slice (some ⟨g, 0, none⟩) (ks.length + 1) cap5)) := HLG.out.below hb7
      have hf7 : flen (dropFo (skipOf a.kind) l) ≤ 9223372036854775807 := by rw [flen_drop]; omega
      clear hdo hA' HLS HLG q1 q2 q3 q4 k0 k1 k2 k3 l0 l1 l2 l3 m0 mf
      generalize dropFo (skipOf a.kind) l = f at *
      go_wp2_with fail
      go_loopw [24] (fun iv wr => LRel w B (.slice LA ks.length lc) f b' o' (tms (ks ++ [(⟨0, 0, a, l, A, cap, b, o⟩ : Kd)])) (ks.length + 1) iv wr) (fun iv _ => flen f - (intOf iv).toNat)
      case atStart => exact ⟨0, f, ks ++ [⟨0, 0, a, l, A, cap, b, o⟩], _, rfl, by simp, HIH.out, HDM.out, by rw [show o' + 0 * 4 = o' from by omega]; exact hr', HS7.out, HG7.out, rfl, by simp⟩
      case round =>
        obtain ⟨i, g', ks', lv', rfl, hi', hg1, hdg, hrg, hst', hgr', hle, hcnt⟩ := hrel
        have HST2 : Hid (LSt wr B lv' ks') := hst'
        have HGR2 : Hid (LGrew B w wr (.slice LA ks.length lc) lv') := hgr'
        have HLE : Hid (learnG 0 g' (tms ks') = learnG 0 f (tms (ks ++ [(⟨0, 0, a, l, A, cap, b, o⟩ : Kd)]))) := hle
        have c3' := hst'.c3
        have hszr : B + 4 ≤ wr.heap.size := hst'.sz
        have hB3 : B + 3 < wr.heap.size := by omega
        have hBr : Below B w wr := hgr'.toBelow (fun q hq => by have := hvk q hq; omega) (by omega)
        have hvr := hst'.own.lt
        clear hst' hgr' hle HS7 HG7 HIH HDM
        cases g' with
        | nil =>
          simp only [flen] at hi'
          simp only [nodesF] at hcnt
          go_wp2_with fail
          refine bodyPost_ret (v := .tuple #[]) (by simp [results, Tryz.results56]) rfl ?_
          refine ⟨lv', ks', rfl, HST2.out, HGR2.out, ?_, by omega⟩
          have := HLE.out; rw [learnG] at this; rw [this, HDO.out]
        | node b1 o1 a1 l1 r1 =>
          obtain ⟨hb1', hf1, e0, e1, e2, ⟨A1, cap1, b2, o2, e3, hn1, hA1, hl1⟩, hr1⟩ := hrg
          obtain ⟨hw1, hgr1⟩ := hg1
          obtain ⟨dm1, dm2, dm3, dm4⟩ := hdg
          simp only [flen] at hi'
          simp only [nodesF] at hcnt
          obtain rfl : A' = some ⟨b', o', none⟩ := by rcases HA7.out with h | h; omega; exact h
          have HA1 : Hid (flen l1 = 0 ∨ A1 = some ⟨b2, o2, none⟩) := hA1
          have HD1 : Hid (may a1 l1 = true ∧ DMay l1 ∧ DMay r1) := ⟨dm1, dm3, dm4⟩
          have hal : Below wr.heap.size wr (wr.alloc (.cells #[.int .i64 a1.kind, .int .i64 a1.n, .string a1.s, .slice A1 (flen l1) cap1] 27)) := Below.alloc (Below.refl _ _) (Nat.le_refl _) _
          clear hA1 dm1 dm3 dm4
          go_wp2_with fail
          refine (hw1 _ B _ lv' ks' ⟨hf1, A1, cap1, b2, o2, rfl, hn1, HA1.out, hl1.below (hal.mono (by omega))⟩ HD1.out.1 dm2 HD1.out.2.1 (HST2.out.below hal) (by omega) (HTB.out.on (hBr.trans (hal.mono (by omega))))).mono ?_
          rintro e w8 ⟨lv8, ks8, rfl, hst8, hgr8, hle8, hc8⟩
          have HST8 : Hid (LSt w8 B lv8 ks8) := hst8
          have HGR8 : Hid (LGrew B wr w8 lv' lv8) := LGrew.trans ((LGrew.refl B wr lv').below hal) hgr8
          have HLE8 : Hid (tms ks8 = learnT a1 l1 (tms ks')) := hle8
          have hB8 : Below B wr w8 := HGR8.out.toBelow (fun q hq => by have := hvr q hq; omega) (by omega)
          have hr2 : RepF w8 B r1 b' (o' + i * 4 + 4) := RepF.keep (Nat.le_refl _) (fun q j hq => hB8.cell hq) hr1
          clear hst8 hgr8 hle8 e0 e1 e2 e3 c3'
          go_wp2_with fail
          go_roundw
          case rel =>
            refine ⟨i + 1, r1, ks8, lv8, by go_num, by omega, hgr1, HD1.out.2.2, ?_, HST8.out, HGR2.out.trans HGR8.out, ?_, by omega⟩
            · rw [show o' + (i + 1) * 4 = o' + i * 4 + 4 from by omega]; exact hr2
            · rw [← HLE.out, learnG_node, HLE8.out]
          case measure => simp [intOf]; omega
    · refine step_store (by rfl) 24 _ _ (by rfl) ⟨B, 0, none⟩ (some ⟨g, 0, none⟩) (ks.length + 1) cap5 (by rfl) (by rfl) _ m0 mf sizeOf_termsK ?_
      refine hK.out _ _ (fun h => not_until (by kernel_rfl) h) ?_
      clear hK K'
      try simp only [Act.put, List.setIfInBounds_toArray, List.set_cons_zero, List.set_cons_succ]
      refine wpAnyU_one (i := 6) (o := { dst := none, op := Op.store 27 (Operand.tmp 20) (Operand.tmp 16), type := 0, pos := "know.go:56", after := #[{ on := 5, ground := Ground.data }, { on := 1, ground := Ground.data }, { on := 4, ground := Ground.chain }, { on := 0, ground := Ground.phase }, { on := 1, ground := Ground.phase }, { on := 2, ground := Ground.phase }, { on := 3, ground := Ground.phase }, { on := 4, ground := Ground.phase }, { on := 7, ground := Ground.gcOnly Departure.appendInPlace }], guard := none }) (by kernel_rfl) rfl (fun K' hK => ?_)
      rw [if_pos (by rfl)]
      have n0 := (World.cell?_of_block (w := w5) (Below.heap_setCell w5 ⟨B, 0, none⟩ (.slice (some ⟨g, 0, none⟩) (ks.length + 1) cap5) g gB) : _ = w5.cell? ⟨g, ks.length * 4, none⟩).trans k0
      have n1 := (World.cell?_of_block (w := w5) (Below.heap_setCell w5 ⟨B, 0, none⟩ (.slice (some ⟨g, 0, none⟩) (ks.length + 1) cap5) g gB) : _ = w5.cell? ⟨g, ks.length * 4 + 1, none⟩).trans k1
      have n2 := (World.cell?_of_block (w := w5) (Below.heap_setCell w5 ⟨B, 0, none⟩ (.slice (some ⟨g, 0, none⟩) (ks.length + 1) cap5) g gB) : _ = w5.cell? ⟨g, ks.length * 4 + 2, none⟩).trans k2
      have n3 := (World.cell?_of_block (w := w5) (Below.heap_setCell w5 ⟨B, 0, none⟩ (.slice (some ⟨g, 0, none⟩) (ks.length + 1) cap5) g gB) : _ = w5.cell? ⟨g, ks.length * 4 + 3, none⟩).trans k3
      go_wp2_with fail
      refine hK.out _ _ (fun h => not_until (by kernel_rfl) h) ?_
      clear hK K'
      try simp only [Act.put, List.setIfInBounds_toArray, List.set_cons_zero, List.set_cons_succ]
      refine wpAnyU_done (by kernel_rfl) ?_ _
      have hP := putW_B (xs := rowOf ks) (m := ks.length * 4) (u0 := .int .i64 a.kind) (u1 := .int .i64 a.n) (u2 := .string a.s) (u3 := .slice A (flen l) cap) (by rw [rowOf_length]; omega) gB m0 mf HO5.out
      clear n0 n1 n2 n3
      generalize (((((w5.setCell ⟨B, 0, none⟩ (.slice (some ⟨g, 0, none⟩) (ks.length + 1) cap5)).setCell ⟨g, ks.length * 4, none⟩ (.int .i64 a.kind)).setCell ⟨g, ks.length * 4 + 1, none⟩ (.int .i64 a.n)).setCell ⟨g, ks.length * 4 + 2, none⟩ (.string a.s)).setCell ⟨g, ks.length * 4 + 3, none⟩ (.slice A (flen l) cap)) = W at *
      have hms2 := HMS.out
      rw [← HSK.out] at hms2
      have hL := learn_put (kd := ⟨0, 0, a, l, A, cap, b, o⟩) HS1.out ho2 hms2 ⟨hgrow5.os, hgrow5.tape, hgrow5.output⟩ hs5 hblk hg4 HAT.out hP ⟨hf, hn, HA.out, (RepF.below (hbw.mono (by omega)) HR.out).toG⟩ HM.out.1
      have HLS : Hid (LSt W B (.slice (some ⟨g, 0, none⟩) (ks.length + 1) cap5) (ks ++ [⟨0, 0, a, l, A, cap, b, o⟩])) := hL.1
      have HLG : Hid (LGrew B w W (.slice LA ks.length lc) (.slice (some ⟨g, 0, none⟩) (ks.length + 1) cap5)) := LGrew.trans ((LGrew.refl B w _).below hbw) hL.2
      have hN1 : w.heap.size < w1.heap.size := x0
      have hbx : W.heap[w.heap.size]? = w1.heap[w.heap.size]? := hL.2.block _ x0 (by omega) (by omega) hnb
      have q1 : W.cell? ⟨w.heap.size, 0, none⟩ = some (.int .i64 a.kind) := (World.cell?_of_block (w := w1) hbx).trans xx1
      have q2 : W.cell? ⟨w.heap.size, 1, none⟩ = some (.int .i64 a.n) := (World.cell?_of_block (w := w1) hbx).trans xx2
      have q3 : W.cell? ⟨w.heap.size, 2, none⟩ = some (.string a.s) := (World.cell?_of_block (w := w1) hbx).trans xx3
      have q4 : W.cell? ⟨w.heap.size, 3, none⟩ = some (.slice A (flen l) cap) := (World.cell?_of_block (w := w1) hbx).trans xx4
      have hBW : Below B w W := HLG.out.toBelow (fun q hq => by have := hvk q hq; omega) (by omega)
      have hsW := HLG.out.size
      clear hL hms2 hbx hP
      go_wp2_with fail
      refine (within_anyK a l _ W B ⟨hf, A, cap, b, o, rfl, hn, HA.out, RepF.keep (Nat.le_refl _) (fun q j hq => hBW.cell hq) HR.out⟩ (by omega) (may_ar a l HM.out.1).1).mono ?_
      rintro e w7 ⟨hb7, A', c', b', o', rfl, hA', hr'⟩
      have hdo : learnG 0 (dropFo (skipOf a.kind) l) (tms (ks ++ [(⟨0, 0, a, l, A, cap, b, o⟩ : Kd)])) = learnT a l (tms ks) := by rw [learnG_drop, learnT, if_neg HIN.out]; simp [tms]
      have hnd := nodes_drop (skipOf a.kind) l
      have HIH : Hid (AllF LOk (dropFo (skipOf a.kind) l)) := AllF.drop _ ih
      have HDM : Hid (DMay (dropFo (skipOf a.kind) l)) := DMay.drop _ HM.out.2
      have HDO : Hid (learnG 0 (dropFo (skipOf a.kind) l) (tms (ks ++ [(⟨0, 0, a, l, A, cap, b, o⟩ : Kd)])) = learnT a l (tms ks)) := hdo
      have HA7 : Hid (flen (dropFo (skipOf a.kind) l) = 0 ∨ A' = some ⟨b', o', none⟩) := hA'
      have HS7 : Hid (LSt w7 B (.slice (some ⟨g, 0, none⟩) (ks.length + 1) cap5) (ks ++ [⟨0, 0, a, l, A, cap, b, o⟩])) := HLS.out.below hb7
      have HG7 : Hid (LGrew B w w7 (.slice LA ks.length lc) (.slice (some ⟨g, 0, none⟩) (ks.length + 1) cap5)) := HLG.out.below hb7
      have hf7 : flen (dropFo (skipOf a.kind) l) ≤ 9223372036854775807 := by rw [flen_drop]; omega
      clear hdo hA' HLS HLG q1 q2 q3 q4 k0 k1 k2 k3 l0 l1 l2 l3 m0 mf
      generalize dropFo (skipOf a.kind) l = f at *
      go_wp2_with fail
      go_loopw [24] (fun iv wr => LRel w B (.slice LA ks.length lc) f b' o' (tms (ks ++ [(⟨0, 0, a, l, A, cap, b, o⟩ : Kd)])) (ks.length + 1) iv wr) (fun iv _ => flen f - (intOf iv).toNat)
      case atStart => exact ⟨0, f, ks ++ [⟨0, 0, a, l, A, cap, b, o⟩], _, rfl, by simp, HIH.out, HDM.out, by rw [show o' + 0 * 4 = o' from by omega]; exact hr', HS7.out, HG7.out, rfl, by simp⟩
      case round =>
        obtain ⟨i, g', ks', lv', rfl, hi', hg1, hdg, hrg, hst', hgr', hle, hcnt⟩ := hrel
        have HST2 : Hid (LSt wr B lv' ks') := hst'
        have HGR2 : Hid (LGrew B w wr (.slice LA ks.length lc) lv') := hgr'
        have HLE : Hid (learnG 0 g' (tms ks') = learnG 0 f (tms (ks ++ [(⟨0, 0, a, l, A, cap, b, o⟩ : Kd)]))) := hle
        have c3' := hst'.c3
        have hszr : B + 4 ≤ wr.heap.size := hst'.sz
        have hB3 : B + 3 < wr.heap.size := by omega
        have hBr : Below B w wr := hgr'.toBelow (fun q hq => by have := hvk q hq; omega) (by omega)
        have hvr := hst'.own.lt
        clear hst' hgr' hle HS7 HG7 HIH HDM
        cases g' with
        | nil =>
          simp only [flen] at hi'
          simp only [nodesF] at hcnt
          go_wp2_with fail
          refine bodyPost_ret (v := .tuple #[]) (by simp [results, Tryz.results56]) rfl ?_
          refine ⟨lv', ks', rfl, HST2.out, HGR2.out, ?_, by omega⟩
          have := HLE.out; rw [learnG] at this; rw [this, HDO.out]
        | node b1 o1 a1 l1 r1 =>
          obtain ⟨hb1', hf1, e0, e1, e2, ⟨A1, cap1, b2, o2, e3, hn1, hA1, hl1⟩, hr1⟩ := hrg
          obtain ⟨hw1, hgr1⟩ := hg1
          obtain ⟨dm1, dm2, dm3, dm4⟩ := hdg
          simp only [flen] at hi'
          simp only [nodesF] at hcnt
          obtain rfl : A' = some ⟨b', o', none⟩ := by rcases HA7.out with h | h; omega; exact h
          have HA1 : Hid (flen l1 = 0 ∨ A1 = some ⟨b2, o2, none⟩) := hA1
          have HD1 : Hid (may a1 l1 = true ∧ DMay l1 ∧ DMay r1) := ⟨dm1, dm3, dm4⟩
          have hal : Below wr.heap.size wr (wr.alloc (.cells #[.int .i64 a1.kind, .int .i64 a1.n, .string a1.s, .slice A1 (flen l1) cap1] 27)) := Below.alloc (Below.refl _ _) (Nat.le_refl _) _
          clear hA1 dm1 dm3 dm4
          go_wp2_with fail
          refine (hw1 _ B _ lv' ks' ⟨hf1, A1, cap1, b2, o2, rfl, hn1, HA1.out, hl1.below (hal.mono (by omega))⟩ HD1.out.1 dm2 HD1.out.2.1 (HST2.out.below hal) (by omega) (HTB.out.on (hBr.trans (hal.mono (by omega))))).mono ?_
          rintro e w8 ⟨lv8, ks8, rfl, hst8, hgr8, hle8, hc8⟩
          have HST8 : Hid (LSt w8 B lv8 ks8) := hst8
          have HGR8 : Hid (LGrew B wr w8 lv' lv8) := LGrew.trans ((LGrew.refl B wr lv').below hal) hgr8
          have HLE8 : Hid (tms ks8 = learnT a1 l1 (tms ks')) := hle8
          have hB8 : Below B wr w8 := HGR8.out.toBelow (fun q hq => by have := hvr q hq; omega) (by omega)
          have hr2 : RepF w8 B r1 b' (o' + i * 4 + 4) := RepF.keep (Nat.le_refl _) (fun q j hq => hB8.cell hq) hr1
          clear hst8 hgr8 hle8 e0 e1 e2 e3 c3'
          go_wp2_with fail
          go_roundw
          case rel =>
            refine ⟨i + 1, r1, ks8, lv8, by go_num, by omega, hgr1, HD1.out.2.2, ?_, HST8.out, HGR2.out.trans HGR8.out, ?_, by omega⟩
            · rw [show o' + (i + 1) * 4 = o' + i * 4 + 4 from by omega]; exact hr2
            · rw [← HLE.out, learnG_node, HLE8.out]
          case measure => simp [intOf]; omega

theorem learn_all : ∀ f : Fo, AllF LOk f
  | .nil => trivial
  | .node _ _ a l r => ⟨learn_step a l (learn_all l), learn_all r⟩

end Go.Proofs.YtanpplgmdemlaaaGreatDoor
