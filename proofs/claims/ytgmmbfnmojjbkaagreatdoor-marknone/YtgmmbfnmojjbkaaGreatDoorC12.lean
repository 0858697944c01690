import Derived.Test.YtgmmbfnmojjbkaaGreatDoorC3
namespace Go.Proofs.YtgmmbfnmojjbkaaGreatDoor
open Go.RowKit
set_option linter.unusedVariables false
set_option linter.unusedSimpArgs false

section
variable {P : Program} (w : World)
theorem step_append_str {ops : Array Oper} {o : Oper} {a : Act} {K : Act → World → Prop} {Q : Exit → Act → World → Prop} {E : Prop} (hgd : o.guard = none) (sl x : Operand) (t u : TypeId)
    (ho : o.op = .call { callee := .builtin .append, args := #[sl, x], argTypes := #[t, u] })
    (base : Nat) (e : TypeId) (i : TypeInfo) (ht : P.underlying t = some (.slice e)) (hu : P.underlying u = some .string) (hi : P.info? e = some i) (hz : i.zero = some (.int .u8 0))
    (hsize : i.size = 1) (hby : i.bytes = 1) (v : Value) (n : Nat) (xs : List Value) (hs : a.eval sl = v) (hown : w.ownsRow base e 1 v n xs) (s : ByteArray) (hx : a.eval x = .string s)
    (h63 : n + s.size ≤ maxLen) (hbytes : n + s.size ≤ 140737488355328) (hbase : base ≤ w.heap.size)
    (h : ∀ v' w', w'.ownsRow base e 1 v' (n + s.size) (xs ++ Lib.strCells s) → w.grownBy w' v.ownBlock → (v'.ownBlock = v.ownBlock ∨ v'.ownBlock = some w.heap.size) → K (a.put o.dst v') w') :
    if Region.wanted o (yielded ops a.tmps) = true then Oper.wp P o a w K Q else E := by
  have hw : Region.wanted o (yielded ops a.tmps) = true := by simp [Region.wanted, hgd]
  rw [if_pos hw]
  obtain ⟨v', w', hr, h2, h3, h4⟩ := run_append_str_at (P := P) w base t u o.type e i ht hu hi hz hsize hby v n xs hown s h63 hbytes hbase
  unfold Oper.wp execOp
  simp only [ho, resolve, invoke, builtin, Sem.run_bind, Sem.run_pure, Result.andThen_ok, List.map_toArray, List.map_cons, List.map_nil, hs, hx, hr]
  exact h v' w' h2 h3 h4
end

def RefPutOk (a : Nd) (l : Fo) : Prop := ∀ (v u : Value) (xs : List UInt8) (B B' : Nat) (w : World), RepV w B a l v → GdN a → GdF l → OwnB w B' u xs → B ≤ B' → B' ≤ w.heap.size → xs.length + (putT a l).length ≤ 1000000 →
    Calls Tryz.prog 46 #[u, v] w fun e w' => ∃ u', e = .returned u' ∧ OwnB w' B' u' (xs ++ putT a l) ∧ Grew w w' u u'

def RPutRel (w : World) (B B' b o : Nat) (xs : List UInt8) (u : Value) (a : Nd) (l : Fo) (A : Option Addr) (cap : Nat) (bv iv : Value) (wr : World) : Prop :=
  ∃ (i : Nat) (g : Fo) (ys : List UInt8), iv = .int .i64 (i : Int) ∧ i + flen g = flen l ∧ AllF RefPutOk g ∧ GdF g ∧ RepF wr B g b (o + i * 4) ∧ OwnB wr B' bv ys ∧ Grew w wr u bv ∧ ys ++ putF g = xs ++ putT a l ∧
    wr.cell? ⟨w.heap.size, 3, none⟩ = some (.slice A (flen l) cap) ∧ w.heap.size < wr.heap.size ∧ ∀ q, bv.ownBlock = some q → q ≠ w.heap.size

set_option maxRecDepth 100000 in
set_option maxHeartbeats 4000000 in
theorem refPut_step (a : Nd) (l : Fo) (ih : AllF RefPutOk l) : RefPutOk a l := by
  rintro v u xs B B' w ⟨hf, A, cap, b, o, rfl, hn, hA, hr⟩ hga hgl hown hBB hB hbig
  have HA : Hid (flen l = 0 ∨ A = some ⟨b, o, none⟩) := hA
  have HGl : Hid (GdF l) := hgl
  have HOW : Hid (OwnB w B' u xs) := hown
  obtain ⟨g1, g2, g3, g4, g5⟩ := hga
  have hhb : (putT a l).length = (headB a).length + (putF l).length := by rw [putT, List.length_append]
  clear hA hgl
  obtain ⟨i5, hi, hz0, hz1, hz2⟩ := info_has Tryz.infoByte
  go_enter Tryz.func46, Tryz.ntmps46
  go_wp2_with (at_builtin; refine wpList_append_any _ rfl _ _ 43 rfl B' 5 i5 (.int .u8 0) 1 1 Tryz.underlying43 hi hz0 hz1 hz2 rfl (by decide) u xs.length (Lib.byteCells xs) rfl ?own (some ⟨w.heap.size + 1, 0, none⟩) 1 1 [.int .u8 a.kind] rfl ?src ?c3 ?c4 ?c5 ?_)
  case own => exact (hown.alloc _).alloc _
  case src => exact .inr ⟨_, rfl, rfl, World.news_of_block (t := 5) (fr := (0, 0)) (by have := heap_alloc_new (w.alloc (.cells #[.int .i64 a.kind, .int .i64 a.n, .string a.s, .slice A (flen l) cap] 24)) (.cells #[.int .u8 a.kind] 5); simpa using this), by simp [Value.oneCell']⟩
  case c3 => unfold maxLen; omega
  case c4 => omega
  case c5 => simp; omega
  intro v6 w6 hown6 hgrow6 hat6
  have e1 : [Value.int .u8 a.kind] = Lib.byteCells [UInt8.ofNat a.kind.toNat] := by have := u8_int _ g1; rw [Int.emod_eq_of_lt g1 (by omega)] at this; rw [this]; rfl
  have o6 : OwnB w6 B' v6 (xs ++ [UInt8.ofNat a.kind.toNat]) := by
    rw [e1, byteCells_append] at hown6
    simpa [OwnB] using hown6
  have g6 : Grew w w6 u v6 := Grew.step (((Grew.refl w u).alloc _).alloc _) hgrow6 (by simpa using hat6)
  have hq : ∀ j, w6.cell? ⟨w.heap.size, j, none⟩ = (#[Value.int .i64 a.kind, .int .i64 a.n, .string a.s, .slice A (flen l) cap] : Array Value)[j]? := fun j => by
    rw [World.cell?_of_block (w := (w.alloc (.cells #[.int .i64 a.kind, .int .i64 a.n, .string a.s, .slice A (flen l) cap] 24)).alloc (.cells #[.int .u8 a.kind] 5)) (hgrow6.block w.heap.size (by simp; omega) (fun e => by have := (hown.base _ e.symm).2; omega)), World.cell?_alloc_past _ _ _ (by simp)]; simp [go_sem]
  have x1 : w6.cell? ⟨w.heap.size, 0, none⟩ = some (.int .i64 a.kind) := by rw [hq]; rfl
  have x2 : w6.cell? ⟨w.heap.size, 1, none⟩ = some (.int .i64 a.n) := by rw [hq]; rfl
  have x3 : w6.cell? ⟨w.heap.size, 2, none⟩ = some (.string a.s) := by rw [hq]; rfl
  have x4 : w6.cell? ⟨w.heap.size, 3, none⟩ = some (.slice A (flen l) cap) := by rw [hq]; rfl
  clear hq
  have hr6 : RepF w6 B l b o := RepF.keep (Nat.le_refl _) (fun q j hq => g6.cell (by simp; omega) (fun e => by have := hown.base _ e; simp at this; omega)) hr
  have hs6 := hgrow6.size
  simp only [World.heap_size_alloc'] at hs6
  have hns : ∀ q, v6.ownBlock = some q → q ≠ w.heap.size := fun q e => by
    rcases hat6 with h | h
    · rw [h] at e; have := hown.base q e; omega
    · rw [h] at e; injection e with e; omega
  have hl1 : (xs ++ [UInt8.ofNat a.kind.toNat]).length = xs.length + 1 := by simp
  have hpos : 1 ≤ (headB a).length := by unfold headB; simp
  clear e1 hown6 hgrow6 hat6 hown
  have HO6 : Hid (OwnB w6 B' v6 (xs ++ [UInt8.ofNat a.kind.toNat])) := o6
  have HG6 : Hid (Grew w w6 u v6) := g6
  clear o6 g6
  have hsl : a.s.size ≤ maxLen := hf.2.2.2.2
  by_cases h1 : a.kind = 1
  · have hhd : headB a = [UInt8.ofNat a.kind.toNat] ++ be 2 a.s.size ++ a.s.data.toList := by unfold headB; rw [if_pos h1]; rfl
    have Hhd : Hid (headB a = [UInt8.ofNat a.kind.toNat] ++ be 2 a.s.size ++ a.s.data.toList) := hhd
    clear hhd
    have hsm : (a.s.size : Int) < 2147483648 := by omega
    have O6d : Hid (OwnB w6.drew B' v6 (xs ++ [UInt8.ofNat a.kind.toNat])) := HO6.out.below (Below.drew (Below.refl _ _))
    have HX3 : Hid (w6.drew.cell? ⟨w.heap.size, 2, none⟩ = some (.string a.s)) := by show World.cell? _ _ = _; rw [World.cell?_drew]; exact x3
    have HC7 : Hid (∀ w7 v7, Grew w6.drew w7 v6 v7 → w7.cell? ⟨w.heap.size, 2, none⟩ = some (.string a.s)) := fun w7 v7 hg => by rw [hg.cell (by show w.heap.size < w6.heap.size; omega) (fun e => hns _ e rfl)]; exact HX3.out
    have HC8 : Hid (∀ w7 v7 w8, Grew w6.drew w7 v6 v7 → w7.grownBy w8 v7.ownBlock → w8.cell? ⟨w.heap.size, 2, none⟩ = some (.string a.s)) := fun w7 v7 w8 hg hb => by
      rw [World.cell?_of_block (hb.block w.heap.size (by have := hg.size; rw [World.heap_size_drew'] at this; omega) (fun e => by
        rcases hg.at' _ e.symm with h | h
        · exact hns _ h rfl
        · rw [World.heap_size_drew'] at h; omega))]
      exact HC7.out w7 v7 hg
    have N1 : Hid (Calls Tryz.prog 64 #[v6, .int .i64 (a.s.size : Int), .int .i64 2] w6.drew fun e w' => ∃ v', e = .returned v' ∧ OwnB w' B' v' (xs ++ [UInt8.ofNat a.kind.toNat] ++ be 2 a.s.size) ∧ Grew w6.drew w' v6 v') :=
      refNum_int w6.drew v6 _ 2 2 (a.s.size : Int) B' rfl O6d.out (by show B' ≤ w6.heap.size; omega) (by rw [hl1]; omega) (by omega) (by omega) hsm
    have hl7 : (xs ++ [UInt8.ofNat a.kind.toNat] ++ be 2 a.s.size).length = xs.length + 3 := by simp [be_length]
    generalize hzs : xs ++ [UInt8.ofNat a.kind.toNat] ++ be 2 a.s.size = zs at *
    have Hzs : Hid (xs ++ [UInt8.ofNat a.kind.toNat] ++ be 2 a.s.size = zs) := hzs
    have hl7' : Hid (zs.length = xs.length + 3) := hl7
    clear hzs hl7
    go_wp2_with fail
    go_region_held3 (fun w' => w'.cell? ⟨w.heap.size, 2, none⟩ = some (.string a.s))
      (first | exact HX3.out | exact HC8.out w7 v7 w8 hg7 hgrow8 | exact HC7.out w7 v7 hg7)
      (first
        | (go_at_call 64; refine (N1.out).mono ?_; rintro e w7 ⟨v7, rfl, ho7, hg7⟩)
        | (refine step_append_str _ (by rfl) _ _ 43 9 (by rfl) B' 5 i5 Tryz.underlying43 Tryz.underlying9 hi hz0 hz1 hz2 v7 zs.length (Lib.byteCells zs) (by rfl) ho7 a.s (by rfl) ?_ ?_ ?_ ?_; (rw [hl7'.out]; unfold maxLen; omega); (rw [hl7'.out]; omega); (exact Nat.le_trans (show B' ≤ w6.drew.heap.size by show B' ≤ w6.heap.size; omega) hg7.size); intro v8 w8 hown8 hgrow8 hat8))
    have hsd : w6.drew.heap.size = w6.heap.size := rfl
    have hs7 := hg7.size
    have hs8 := hgrow8.size
    have hns7 : ∀ q, v7.ownBlock = some q → q ≠ w.heap.size := fun q e => by
      rcases hg7.at' q e with h | h
      · exact hns q h
      · omega
    have hblk : w8.heap[w.heap.size]? = w6.heap[w.heap.size]? := by
      rw [hgrow8.block w.heap.size (by omega) (fun e => hns7 _ e.symm rfl)]
      exact hg7.by'.block w.heap.size (by omega) (fun e => hns _ e.symm rfl)
    have HO : Hid (OwnB w8 B' v8 (xs ++ headB a)) := by
      show OwnB w8 B' v8 (xs ++ headB a)
      have e1 : Lib.byteCells zs ++ Lib.strCells a.s = Lib.byteCells (xs ++ headB a) := by
        rw [Hhd.out, ← Hzs.out]; simp [Lib.byteCells, Lib.strCells]
      have hl : a.s.data.toList.length = a.s.size := by rw [Array.length_toList]; rfl
      have e2 : (xs ++ headB a).length = zs.length + a.s.size := by
        rw [Hhd.out, hl7'.out]; simp only [List.length_append, be_length, hl, List.length_cons, List.length_nil]; omega
      rw [e1] at hown8
      unfold OwnB; rw [e2]; exact hown8
    have HC : Hid (w8.cell? ⟨w.heap.size, 3, none⟩ = some (.slice A (flen l) cap)) := by show World.cell? _ _ = _; rw [World.cell?_of_block hblk]; exact x4
    have HR : Hid (RepF w8 B l b o) := RepF.keep (Nat.le_refl _) (fun q j hq => by
      rw [World.cell?_of_block (hgrow8.block q (by omega) (fun e => by have := ho7.base _ e.symm; omega))]
      exact hg7.cell (by show q < w6.drew.heap.size; omega) (fun e => by have := HO6.out.base _ e; simp at this; omega)) hr6
    have HG : Hid (Grew w w8 u v8) := (HG6.out.drew.trans hg7).step hgrow8 hat8
    have hMs : w.heap.size < w8.heap.size := by omega
    have HV : Hid (∀ q, v8.ownBlock = some q → q ≠ w.heap.size) := fun q e => by
      rcases hat8 with h | h
      · rw [h] at e; exact hns7 q e
      · rw [h] at e; injection e with e; omega
    clear x1 x2 x3 x4 hr6 HO6 HG6 hown8 hgrow8 hat8 ho7 hg7 hblk hns7 hsd hs7 hs8 N1 HC7 HC8 HX3 O6d hsm Hhd Hzs hl7'
    rename_i hHeld9
    clear hHeld9
    go_wp2_with fail
    go_loopw [0, 5] (fun bv iv wr => RPutRel w B B' b o xs u a l A cap bv iv wr) (fun _ iv _ => flen l - (intOf iv).toNat)
    case atStart => exact ⟨0, l, _, rfl, by simp, ih, HGl.out, by rw [show o + 0 * 4 = o from by omega]; exact HR.out, HO.out, HG.out, by rw [putT, List.append_assoc], HC.out, hMs, HV.out⟩
    case round =>
      obtain ⟨i, g, ys, rfl, hi', hg1, hgd, hrg, hoy, hgr, hys, hcx, hMs2, hvx⟩ := hrel
      have HV2 : Hid (∀ q, u0.ownBlock = some q → q ≠ w.heap.size) := hvx
      clear hvx HV HC
      have HY : Hid (ys ++ putF g = xs ++ putT a l) := hys
      have HO2 : Hid (OwnB wr B' u0 ys) := hoy
      have HG2 : Hid (Grew w wr u u0) := hgr
      have hlen : ys.length + (putF g).length = xs.length + (putT a l).length := by have := congrArg List.length hys; simpa using this
      have hoz := hoy.base
      have hsz := hgr.size
      clear hys hoy hgr HG HO HR
      cases g with
      | nil =>
        simp only [flen] at hi'
        go_wp2_with fail
        go_ret
        refine ⟨_, rfl, ?_, HG2.out⟩
        have := HY.out; rw [putF, List.append_nil] at this; rw [← this]; exact HO2.out
      | node b1 o1 a1 l1 r1 =>
        obtain ⟨hb1, hf1, e0, e1, e2, ⟨A1, cap1, b2, o2, e3, hn1, hA1, hl1⟩, hr1⟩ := hrg
        obtain ⟨hw1, hgr1⟩ := hg1
        obtain ⟨gd1, gd2, gd3⟩ := hgd
        rw [putF_node] at hlen
        simp only [flen] at hi'
        obtain rfl : A = some ⟨b, o, none⟩ := by rcases HA.out with h | h; omega; exact h
        have HA1 : Hid (flen l1 = 0 ∨ A1 = some ⟨b2, o2, none⟩) := hA1
        have GD1 : Hid (GdN a1) := gd1
        clear hA1 gd1
        rw [List.length_append] at hlen
        go_wp2_with fail
        refine (hw1 _ _ ys B B' _ ⟨hf1, A1, cap1, b2, o2, rfl, hn1, HA1.out, hl1⟩ GD1.out gd2 HO2.out hBB (by omega) (by omega)).mono ?_
        rintro e w2 ⟨u1, rfl, ho1, hg2⟩
        have HO3 : Hid (OwnB w2 B' u1 (ys ++ putT a1 l1)) := ho1
        have HG3 : Hid (Grew w w2 u u1) := Grew.trans HG2.out hg2
        have hg4 : Grew wr w2 u0 u1 := hg2
        have hcx2 : w2.cell? ⟨w.heap.size, 3, none⟩ = some (.slice (some ⟨b, o, none⟩) (flen l) cap) := by rw [hg4.cell hMs2 (fun e => HV2.out _ e rfl)]; exact hcx
        have hMs3 : w.heap.size < w2.heap.size := Nat.lt_of_lt_of_le hMs2 hg4.size
        have HV3 : Hid (∀ q, u1.ownBlock = some q → q ≠ w.heap.size) := fun q e => by
          rcases hg4.at' q e with h | h
          · exact HV2.out q h
          · omega
        have hr2 : RepF w2 B r1 b (o + i * 4 + 4) := RepF.keep (Nat.le_refl _) (fun q j hq => hg4.cell (by simp; omega) (fun e => by have := hoz _ e; simp at this; omega)) hr1
        clear ho1 hg2 hg4 HO2 HG2 e0 e1 e2 e3
        go_wp2_with fail
        go_roundw
        case rel =>
          refine ⟨i + 1, r1, ys ++ putT a1 l1, by go_num, by omega, hgr1, gd3, ?_, HO3.out, HG3.out, ?_, hcx2, hMs3, HV3.out⟩
          · rw [show o + (i + 1) * 4 = o + i * 4 + 4 from by omega]; exact hr2
          · rw [← HY.out, putF_node, List.append_assoc]
        case measure => simp [intOf]; omega
  · by_cases h2 : a.kind = 2
    · have hhd : headB a = [UInt8.ofNat a.kind.toNat] ++ be 4 a.n.toNat := by unfold headB; rw [if_neg h1, if_pos h2]; rfl
      have Hhd : Hid (headB a = [UInt8.ofNat a.kind.toNat] ++ be 4 a.n.toNat) := hhd
      clear hhd
      go_wp2_with fail
      refine (refNum_int w6 v6 _ 4 4 a.n B' rfl HO6.out (by omega) (by rw [hl1]; omega) (by omega) (by omega) (by omega)).mono ?_
      rintro e w7 ⟨v7, rfl, ho7, hg7⟩
      have y4 : w7.cell? ⟨w.heap.size, 3, none⟩ = some (.slice A (flen l) cap) := by rw [hg7.cell (by simp; omega) (fun e => hns _ e rfl)]; exact x4
      have HR : Hid (RepF w7 B l b o) := RepF.keep (Nat.le_refl _) (fun q j hq => hg7.cell (by simp; omega) (fun e => by have := HO6.out.base _ e; simp at this; omega)) hr6
      have HG : Hid (Grew w w7 u v7) := HG6.out.trans hg7
      have HC : Hid (w7.cell? ⟨w.heap.size, 3, none⟩ = some (.slice A (flen l) cap)) := y4
      have hMs : w.heap.size < w7.heap.size := by have := hg7.size; omega
      have HV : Hid (∀ q, v7.ownBlock = some q → q ≠ w.heap.size) := fun q e => by
        rcases hg7.at' q e with h | h
        · exact hns q h
        · omega
      have HO : Hid (OwnB w7 B' v7 (xs ++ headB a)) := by show OwnB w7 B' v7 (xs ++ headB a); rw [Hhd.out, ← List.append_assoc]; exact ho7
      clear x1 x2 x3 x4 hg7 HO6 HG6 hr6 ho7
      go_wp2_with fail
      go_loopw [0, 5] (fun bv iv wr => RPutRel w B B' b o xs u a l A cap bv iv wr) (fun _ iv _ => flen l - (intOf iv).toNat)
      case atStart => exact ⟨0, l, _, rfl, by simp, ih, HGl.out, by rw [show o + 0 * 4 = o from by omega]; exact HR.out, HO.out, HG.out, by rw [putT, List.append_assoc], HC.out, hMs, HV.out⟩
      case round =>
        obtain ⟨i, g, ys, rfl, hi', hg1, hgd, hrg, hoy, hgr, hys, hcx, hMs2, hvx⟩ := hrel
        have HV2 : Hid (∀ q, u0.ownBlock = some q → q ≠ w.heap.size) := hvx
        clear hvx HV HC
        have HY : Hid (ys ++ putF g = xs ++ putT a l) := hys
        have HO2 : Hid (OwnB wr B' u0 ys) := hoy
        have HG2 : Hid (Grew w wr u u0) := hgr
        have hlen : ys.length + (putF g).length = xs.length + (putT a l).length := by have := congrArg List.length hys; simpa using this
        have hoz := hoy.base
        have hsz := hgr.size
        clear hys hoy hgr HG HO HR
        cases g with
        | nil =>
          simp only [flen] at hi'
          go_wp2_with fail
          go_ret
          refine ⟨_, rfl, ?_, HG2.out⟩
          have := HY.out; rw [putF, List.append_nil] at this; rw [← this]; exact HO2.out
        | node b1 o1 a1 l1 r1 =>
          obtain ⟨hb1, hf1, e0, e1, e2, ⟨A1, cap1, b2, o2, e3, hn1, hA1, hl1⟩, hr1⟩ := hrg
          obtain ⟨hw1, hgr1⟩ := hg1
          obtain ⟨gd1, gd2, gd3⟩ := hgd
          rw [putF_node] at hlen
          simp only [flen] at hi'
          obtain rfl : A = some ⟨b, o, none⟩ := by rcases HA.out with h | h; omega; exact h
          have HA1 : Hid (flen l1 = 0 ∨ A1 = some ⟨b2, o2, none⟩) := hA1
          have GD1 : Hid (GdN a1) := gd1
          clear hA1 gd1
          rw [List.length_append] at hlen
          go_wp2_with fail
          refine (hw1 _ _ ys B B' _ ⟨hf1, A1, cap1, b2, o2, rfl, hn1, HA1.out, hl1⟩ GD1.out gd2 HO2.out hBB (by omega) (by omega)).mono ?_
          rintro e w2 ⟨u1, rfl, ho1, hg2⟩
          have HO3 : Hid (OwnB w2 B' u1 (ys ++ putT a1 l1)) := ho1
          have HG3 : Hid (Grew w w2 u u1) := Grew.trans HG2.out hg2
          have hg4 : Grew wr w2 u0 u1 := hg2
          have hcx2 : w2.cell? ⟨w.heap.size, 3, none⟩ = some (.slice (some ⟨b, o, none⟩) (flen l) cap) := by rw [hg4.cell hMs2 (fun e => HV2.out _ e rfl)]; exact hcx
          have hMs3 : w.heap.size < w2.heap.size := Nat.lt_of_lt_of_le hMs2 hg4.size
          have HV3 : Hid (∀ q, u1.ownBlock = some q → q ≠ w.heap.size) := fun q e => by
            rcases hg4.at' q e with h | h
            · exact HV2.out q h
            · omega
          have hr2 : RepF w2 B r1 b (o + i * 4 + 4) := RepF.keep (Nat.le_refl _) (fun q j hq => hg4.cell (by simp; omega) (fun e => by have := hoz _ e; simp at this; omega)) hr1
          clear ho1 hg2 hg4 HO2 HG2 e0 e1 e2 e3
          go_wp2_with fail
          go_roundw
          case rel =>
            refine ⟨i + 1, r1, ys ++ putT a1 l1, by go_num, by omega, hgr1, gd3, ?_, HO3.out, HG3.out, ?_, hcx2, hMs3, HV3.out⟩
            · rw [show o + (i + 1) * 4 = o + i * 4 + 4 from by omega]; exact hr2
            · rw [← HY.out, putF_node, List.append_assoc]
          case measure => simp [intOf]; omega
    · have hhd : headB a = [UInt8.ofNat a.kind.toNat] := by unfold headB; rw [if_neg h1, if_neg h2]
      have HR : Hid (RepF w6 B l b o) := hr6
      have HO : Hid (OwnB w6 B' v6 (xs ++ headB a)) := by show OwnB w6 B' v6 (xs ++ headB a); rw [hhd]; exact HO6.out
      have HG : Hid (Grew w w6 u v6) := HG6.out
      have HC : Hid (w6.cell? ⟨w.heap.size, 3, none⟩ = some (.slice A (flen l) cap)) := x4
      have hMs : w.heap.size < w6.heap.size := by omega
      have HV : Hid (∀ q, v6.ownBlock = some q → q ≠ w.heap.size) := hns
      clear HO6 HG6 hr6 hhd
      have k1 : (a.kind == 1) = false := by simp [h1]
      have k2 : (a.kind == 2) = false := by simp [h2]
      go_wp2_with fail
      clear k1 k2
      go_loopw [0, 5] (fun bv iv wr => RPutRel w B B' b o xs u a l A cap bv iv wr) (fun _ iv _ => flen l - (intOf iv).toNat)
      case atStart => exact ⟨0, l, _, rfl, by simp, ih, HGl.out, by rw [show o + 0 * 4 = o from by omega]; exact HR.out, HO.out, HG.out, by rw [putT, List.append_assoc], HC.out, hMs, HV.out⟩
      case round =>
        obtain ⟨i, g, ys, rfl, hi', hg1, hgd, hrg, hoy, hgr, hys, hcx, hMs2, hvx⟩ := hrel
        have HV2 : Hid (∀ q, u0.ownBlock = some q → q ≠ w.heap.size) := hvx
        clear hvx HV HC
        have HY : Hid (ys ++ putF g = xs ++ putT a l) := hys
        have HO2 : Hid (OwnB wr B' u0 ys) := hoy
        have HG2 : Hid (Grew w wr u u0) := hgr
        have hlen : ys.length + (putF g).length = xs.length + (putT a l).length := by have := congrArg List.length hys; simpa using this
        have hoz := hoy.base
        have hsz := hgr.size
        clear hys hoy hgr HG HO HR
        cases g with
        | nil =>
          simp only [flen] at hi'
          go_wp2_with fail
          go_ret
          refine ⟨_, rfl, ?_, HG2.out⟩
          have := HY.out; rw [putF, List.append_nil] at this; rw [← this]; exact HO2.out
        | node b1 o1 a1 l1 r1 =>
          obtain ⟨hb1, hf1, e0, e1, e2, ⟨A1, cap1, b2, o2, e3, hn1, hA1, hl1⟩, hr1⟩ := hrg
          obtain ⟨hw1, hgr1⟩ := hg1
          obtain ⟨gd1, gd2, gd3⟩ := hgd
          rw [putF_node] at hlen
          simp only [flen] at hi'
          obtain rfl : A = some ⟨b, o, none⟩ := by rcases HA.out with h | h; omega; exact h
          have HA1 : Hid (flen l1 = 0 ∨ A1 = some ⟨b2, o2, none⟩) := hA1
          have GD1 : Hid (GdN a1) := gd1
          clear hA1 gd1
          rw [List.length_append] at hlen
          go_wp2_with fail
          refine (hw1 _ _ ys B B' _ ⟨hf1, A1, cap1, b2, o2, rfl, hn1, HA1.out, hl1⟩ GD1.out gd2 HO2.out hBB (by omega) (by omega)).mono ?_
          rintro e w2 ⟨u1, rfl, ho1, hg2⟩
          have HO3 : Hid (OwnB w2 B' u1 (ys ++ putT a1 l1)) := ho1
          have HG3 : Hid (Grew w w2 u u1) := Grew.trans HG2.out hg2
          have hg4 : Grew wr w2 u0 u1 := hg2
          have hcx2 : w2.cell? ⟨w.heap.size, 3, none⟩ = some (.slice (some ⟨b, o, none⟩) (flen l) cap) := by rw [hg4.cell hMs2 (fun e => HV2.out _ e rfl)]; exact hcx
          have hMs3 : w.heap.size < w2.heap.size := Nat.lt_of_lt_of_le hMs2 hg4.size
          have HV3 : Hid (∀ q, u1.ownBlock = some q → q ≠ w.heap.size) := fun q e => by
            rcases hg4.at' q e with h | h
            · exact HV2.out q h
            · omega
          have hr2 : RepF w2 B r1 b (o + i * 4 + 4) := RepF.keep (Nat.le_refl _) (fun q j hq => hg4.cell (by simp; omega) (fun e => by have := hoz _ e; simp at this; omega)) hr1
          clear ho1 hg2 hg4 HO2 HG2 e0 e1 e2 e3
          go_wp2_with fail
          go_roundw
          case rel =>
            refine ⟨i + 1, r1, ys ++ putT a1 l1, by go_num, by omega, hgr1, gd3, ?_, HO3.out, HG3.out, ?_, hcx2, hMs3, HV3.out⟩
            · rw [show o + (i + 1) * 4 = o + i * 4 + 4 from by omega]; exact hr2
            · rw [← HY.out, putF_node, List.append_assoc]
          case measure => simp [intOf]; omega

theorem refPut_all : ∀ f : Fo, AllF RefPutOk f
  | .nil => trivial
  | .node _ _ a l r => ⟨refPut_step a l (refPut_all l), refPut_all r⟩

theorem refput_any (a : Nd) (l : Fo) : RefPutOk a l := refPut_step a l (refPut_all l)

set_option maxRecDepth 100000 in
set_option maxHeartbeats 1000000 in
theorem refPut_any (a : Nd) (l : Fo) (v : Value) (w : World) (hv : RepV w w.heap.size a l v) :
    Calls Tryz.prog 29 #[v] w fun e w' => ∃ u, e = .returned u ∧ OwnB w' w.heap.size u (putB a l) ∧ Below w.heap.size w w' := by
  obtain ⟨hf, A, cap, b, o, rfl, hn, hA, hr⟩ := hv
  have HA : Hid (flen l = 0 ∨ A = some ⟨b, o, none⟩) := hA
  clear hA
  go_enter Tryz.func29, Tryz.ntmps29
  go_wp2_with fail
  refine (refMay_any a l _ w.heap.size _ (by simp) ⟨hf, A, cap, b, o, rfl, hn, HA.out, RepF.keep (w := w) (Nat.le_refl _) (fun b' o' hb' => World.cell?_alloc_past _ _ _ (by omega)) hr⟩).mono ?_
  rintro e w1 ⟨rfl, ho1⟩
  obtain ⟨x0, x1, x2, x3, x4⟩ : Box4 w1 w.heap.size (.int .i64 a.kind) (.int .i64 a.n) (.string a.s) (.slice A (flen l) cap) := (Box4.new w _ _ _ _ _).below ho1
  have hb1 : Below w.heap.size w w1 := Below.trans (Below.alloc (Below.refl _ _) (Nat.le_refl _) _) (ho1.mono (by simp))
  cases hm : may a l
  · go_wp2_with fail
    go_ret
    exact ⟨_, rfl, by simp [putB, hm]; exact OwnB.nil _ _, hb1⟩
  · have HM : Hid (may a l = true) := hm
    clear hm
    go_wp2_with fail
    refine (refput_any a l _ _ [] w.heap.size w.heap.size w1 ⟨hf, A, cap, b, o, rfl, hn, HA.out, RepF.keep (w := w) (Nat.le_refl _) (fun b' o' hb' => hb1.cell (by simp; omega)) hr⟩ (may_gd HM.out).1 (may_gd HM.out).2.1 (OwnB.nil _ _) (Nat.le_refl _) (by omega) (by have := (may_gd HM.out).2.2; simp; omega)).mono ?_
    rintro e w2 ⟨u, rfl, ho2, hg2⟩
    have HO : Hid (OwnB w2 w.heap.size u ([] ++ putT a l)) := ho2
    clear ho2
    go_wp2_with fail
    go_ret
    refine ⟨_, rfl, ?_, hb1.trans (hg2.toBelow (fun q e => by simp [Value.ownBlock] at e) (by omega))⟩
    rw [putB, if_pos HM.out]; exact HO.out

end Go.Proofs.YtgmmbfnmojjbkaaGreatDoor
