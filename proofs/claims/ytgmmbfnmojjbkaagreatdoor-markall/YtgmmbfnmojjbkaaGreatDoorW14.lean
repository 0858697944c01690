import Derived.Test.YtgmmbfnmojjbkaaGreatDoorR2
import Derived.Test.YtgmmbfnmojjbkaaGreatDoorW9
namespace Go.Proofs.YtgmmbfnmojjbkaaGreatDoor
open Go.RowKit
set_option linter.unusedVariables false
set_option linter.unusedSimpArgs false

theorem Tryz.infoTerm : (Tryz.prog.info? 24).map (fun i => (i.zero, i.size, i.bytes)) = some (some (.agg #[.int .i64 0, .int .i64 0, .string ⟨#[]⟩, .slice none 0 0]), 4, 56) := by kernel_rfl

theorem info_get {i : Option TypeInfo} {z : Value} {a b : Nat} (h : i.map (fun i => (i.zero, i.size, i.bytes)) = some (some z, a, b)) : ∃ j, i = some j ∧ j.zero = some z ∧ j.size = a ∧ j.bytes = b := by
  cases i with
  | none => simp at h
  | some j => simp at h; exact ⟨j, rfl, h.1, h.2.1, h.2.2⟩

theorem kidsOf_le (k : Int) : kidsOf k ≤ 2 := by
  unfold kidsOf; split
  · omega
  · split
    · omega
    · split <;> omega

def FreshOk (a : Nd) (l : Fo) : Prop := ∀ (v : Value) (B : Nat) (w : World), RepV w B a l v → B ≤ w.heap.size → (flen l : Int) = kidsOf a.kind → ArF l →
    Calls Tryz.prog 79 #[v] w fun e w' => ∃ u, e = .returned u ∧ Below w.heap.size w w' ∧ RepVG w' (fun b => w.heap.size ≤ b ∧ b < w'.heap.size) a l u

set_option maxRecDepth 20000 in
set_option maxHeartbeats 4000000 in
theorem fresh_step (a : Nd) (l : Fo) (ih : AllF FreshOk l) : FreshOk a l := by
  rintro v B w ⟨hf, A, cap, b, o, rfl, hn, hA, hr⟩ hB ka ra
  have hsm : flen l ≤ 2 := by have := kidsOf_le a.kind; omega
  clear ka
  have HA : Hid (flen l = 0 ∨ A = some ⟨b, o, none⟩) := hA
  clear hA
  obtain ⟨i, hi, hz0, hz1, hz2⟩ := info_get Tryz.infoTerm
  go_enter Tryz.func79, Tryz.ntmps79
  go_wp2_with fail
  go_loopw [3, 9] (fun kv iv wr => ∃ (n : Nat) (g : Fo) (ks : List Kd), iv = .int .i64 n ∧ n + flen g = flen l ∧ n = ks.length ∧ l = foOf ks g ∧ AllF FreshOk g ∧ ArF g ∧ RepF wr B g b (o + n * 4) ∧ Below w.heap.size w wr ∧ w.heap.size + 1 < wr.heap.size ∧
      Box4 wr w.heap.size (.int .i64 a.kind) (.int .i64 a.n) (.string a.s) (.slice A (flen l) cap) ∧ Box4 wr (w.heap.size + 1) (.int .i64 0) (.int .i64 0) (.string ⟨#[]⟩) (.slice none 0 0) ∧
      (∀ q, wr.frozen? ⟨w.heap.size, q, none⟩ = false) ∧ (∀ q, wr.frozen? ⟨w.heap.size + 1, q, none⟩ = false) ∧
      wr.ownsRow (w.heap.size + 2) 24 4 kv n (rowOf ks) ∧ (∀ k ∈ ks, k.Ok wr (fun b => w.heap.size + 2 ≤ b ∧ b < wr.heap.size ∧ kv.ownBlock ≠ some b)))
    (fun _ iv _ => flen l - (intOf iv).toNat)
  case atStart =>
    refine ⟨0, l, [], rfl, by simp, rfl, rfl, ih, ra, ?_, (by repeat (first | exact Below.refl _ _ | assumption | refine below_drewN ?_ _ | refine Below.drew ?_ | refine Below.alloc ?_ (by simp <;> omega) _ | refine Below.setCell ?_ (by simp <;> omega) _)), by simp, (Box4.new _ _ _ _ _ _).alloc _, ?_, ?_, ?_, World.ownsRow_nil _ _ _ _, by simp⟩
    · rw [show o + 0 * 4 = o from by omega]
      exact hr.below (Below.mono (by repeat (first | exact Below.refl _ _ | assumption | refine below_drewN ?_ _ | refine Below.drew ?_ | refine Below.alloc ?_ (by simp <;> omega) _ | refine Below.setCell ?_ (by simp <;> omega) _)) hB)
    · have h := Box4.new (w.alloc (.cells #[.int .i64 a.kind, .int .i64 a.n, .string a.s, .slice A (flen l) cap] 24)) (.int .i64 0) (.int .i64 0) (.string ⟨#[]⟩) (.slice none 0 0) 24
      simpa using h
    · intro q; simp [go_sem]
    · intro q; simp [go_sem]
  case round =>
    obtain ⟨n, g, ks, rfl, hng, hnk, hl, hg, hag, hrg, hbl, hsz, hx, hy, hfx, hfy, hown, hks⟩ := hrel
    have Hl : Hid (l = foOf ks g) := hl
    have Hnk : Hid (n = ks.length) := hnk
    clear hl hnk
    cases g with
    | nil =>
      simp only [flen] at hng
      obtain rfl : n = flen l := by omega
      have hfin : ∃ K kcap, u3 = .slice K (flen l) kcap ∧ (flen l = 0 ∨ ∃ g, K = some ⟨g, 0, none⟩ ∧ w.heap.size + 2 ≤ g ∧ g < wr.heap.size ∧ flen l ≤ kcap) := by
        rcases hown.2 with ⟨h1, h2⟩ | ⟨g, kcap, cur, h1, h2, _, h5, _⟩
        · exact ⟨none, 0, by rw [h1, h2], .inl h2⟩
        · exact ⟨_, kcap, h1, .inr ⟨g, rfl, h2, (hown.lt g (by rw [h1]; rfl)).2, h5⟩⟩
      obtain ⟨K, kcap, rfl, hK⟩ := hfin
      have HK : Hid (flen l = 0 ∨ ∃ g, K = some ⟨g, 0, none⟩ ∧ w.heap.size + 2 ≤ g ∧ g < wr.heap.size ∧ flen l ≤ kcap) := hK
      clear hK
      have hx' := hx
      have hy' := hy
      obtain ⟨x0, x1, x2, x3, x4⟩ := hx
      obtain ⟨y0, y1, y2, y3, y4⟩ := hy
      have fx := hfx 3
      have fy0 := hfy 0
      have fy1 := hfy 1
      have fy2 := hfy 2
      have fy3 := hfy 3
      clear hfx hfy
      go_wp2_with fail
      refine bodyPost_ret (v := .agg #[.int .i64 a.kind, .int .i64 a.n, .string a.s, .slice K (flen l) kcap]) (by simp [results, Tryz.results79, go_sem, x1, x2, x3, x4, y1, y2, y3, y4]) rfl ⟨_, rfl, ?_, ?_⟩
      · exact (by repeat (first | exact Below.refl _ _ | assumption | refine below_drewN ?_ _ | refine Below.drew ?_ | refine Below.alloc ?_ (by simp <;> omega) _ | refine Below.setCell ?_ (by simp <;> omega) _))
      · have hc : ∀ q j, w.heap.size + 2 ≤ q → (((((wr.setCell ⟨w.heap.size, 3, none⟩ (.slice K (flen l) kcap)).setCell ⟨w.heap.size + 1, 0, none⟩ (.int .i64 a.kind)).setCell ⟨w.heap.size + 1, 1, none⟩ (.int .i64 a.n)).setCell ⟨w.heap.size + 1, 2, none⟩ (.string a.s)).setCell ⟨w.heap.size + 1, 3, none⟩
            (.slice K (flen l) kcap)).cell? ⟨q, j, none⟩ = wr.cell? ⟨q, j, none⟩ := fun q j hq => by
          rw [cell_set4 _ _ _ _ _ _ _ _ (by omega), World.cell?_setCell_other]
          intro e; injection e with e1; omega
        have hsW : (((((wr.setCell ⟨w.heap.size, 3, none⟩ (.slice K (flen l) kcap)).setCell ⟨w.heap.size + 1, 0, none⟩ (.int .i64 a.kind)).setCell ⟨w.heap.size + 1, 1, none⟩ (.int .i64 a.n)).setCell ⟨w.heap.size + 1, 2, none⟩ (.string a.s)).setCell ⟨w.heap.size + 1, 3, none⟩
            (.slice K (flen l) kcap)).heap.size = wr.heap.size := by simp [World.setCell]
        rcases HK.out with h0 | ⟨g, rfl, hg1, hg2, hg3⟩
        · cases hl0 : l with
          | nil => exact ⟨hf, K, kcap, 0, 0, rfl, ⟨Nat.zero_le _, Nat.zero_le _⟩, .inl rfl, trivial⟩
          | node => rw [hl0] at h0; simp [flen] at h0
        · refine ⟨hf, _, kcap, g, 0, rfl, ⟨hn.1, hg3⟩, .inr rfl, ?_⟩
          have hr := rep_of_row (w := wr) (S := fun b => w.heap.size + 2 ≤ b ∧ b < wr.heap.size) (g := g) ⟨hg1, hg2⟩ ks 0 (fun k hk => (hks k hk).keep (fun b hb => ⟨hb.1, hb.2.1⟩) (fun _ _ _ => rfl)) (fun j hj => by rw [Nat.zero_add]; exact hown.cellAt j (by have := Hnk.out; omega))
          rw [← Hl.out] at hr
          exact RepG.keep (fun b hb => ⟨by omega, by rw [hsW]; exact hb.2⟩) (fun b j hb => hc b j hb.1) hr
    | node b1 o1 a1 l1 r1 =>
      obtain ⟨hb1, hf1, e0, e1, e2, ⟨A1, cap1, b2, o2, e3, hn1, hA1, hl1⟩, hr1⟩ := hrg
      obtain ⟨hw1, hgr⟩ := hg
      obtain ⟨ka1, al1, ar1⟩ := hag
      simp only [flen] at hng
      obtain rfl : A = some ⟨b, o, none⟩ := by rcases HA.out with h | h; omega; exact h
      have HA1 : Hid (flen l1 = 0 ∨ A1 = some ⟨b2, o2, none⟩) := hA1
      have Ka1 : Hid ((flen l1 : Int) = kidsOf a1.kind) := ka1
      clear hA1 ka1
      have hx' := hx
      obtain ⟨x0, x1, x2, x3, x4⟩ := hx
      have hzB : B ≤ wr.heap.size := by have := hbl.size; omega
      have hvk := hown.lt
      go_wp2_with fail
      refine (hw1 _ B _ ⟨hf1, A1, cap1, b2, o2, rfl, hn1, HA1.out, hl1.below (Below.alloc (Below.refl _ _) hzB _)⟩ (by simp; omega) Ka1.out al1).mono ?_
      rintro e w1 ⟨u, rfl, ho1, hfa, A3, cap3, b3, o3, rfl, hn3, hA3, hl3⟩
      have HA3 : Hid (flen l1 = 0 ∨ A3 = some ⟨b3, o3, none⟩) := hA3
      clear hA3
      have hbx1 : Box4 w1 wr.heap.size (.int .i64 a1.kind) (.int .i64 a1.n) (.string a1.s) (.slice A1 (flen l1) cap1) := (Box4.new wr _ _ _ _ _).below ho1
      have hbr : Below wr.heap.size wr w1 := Below.trans (Below.alloc (Below.refl _ _) (Nat.le_refl _) _) (ho1.mono (by simp))
      have hown1 := owns_below hown hbr
      go_wp2_with (at_builtin; refine wpList_append_lies _ rfl _ _ 22 rfl (w.heap.size + 2) 24 i (.agg #[.int .i64 0, .int .i64 0, .string ⟨#[]⟩, .slice none 0 0]) 4 56 Tryz.underlying22 hi hz0 hz1 hz2 rfl (by decide) u3 n (rowOf ks) rfl ?own ⟨w1.heap.size, 0, none⟩ 1 1 [.int .i64 a1.kind, .int .i64 a1.n, .string a1.s, .slice A3 (flen l1) cap3] rfl rfl ?c1 ?c2 (by decide) ?c3 ?c4 ?c5 _ rfl ?_)
      case own => exact hown1.alloc _
      case c1 =>
        intro j u hj
        have hj4 : j = 0 ∨ j = 1 ∨ j = 2 ∨ j = 3 := by have := (List.getElem?_eq_some_iff.1 hj).1; simp at this; omega
        rcases hj4 with rfl | rfl | rfl | rfl <;> (simp at hj; subst hj; simp [Addr.add, go_sem])
      case c2 => intro u hu; simp at hu; rcases hu with rfl | rfl | rfl | rfl <;> rfl
      case c3 => unfold maxLen; omega
      case c4 => omega
      case c5 => have := hbr.size; simp; omega
      intro g cap4 w2 hown2 hgrow hat hlt
      go_wp2_with fail
      go_roundw
      case rel =>
        have hb1s := hbr.size
        have hg1s := hgrow.size
        simp only [World.heap_size_alloc'] at hg1s hat
        have hstep : ∀ q, q < wr.heap.size → u3.ownBlock ≠ some q → w2.heap[q]? = wr.heap[q]? := fun q hq hv => by
          rw [hgrow.block q (by simp; omega) (fun e => hv e.symm), Below.heap_alloc _ _ _ (by omega)]; exact hbr.block q hq
        have hg2 : ∀ q, w.heap.size + 2 ≤ q → q < w1.heap.size → u3.ownBlock ≠ some q → g ≠ q := fun q _ hq hv => by
          rcases hat with e | e
          · intro e2; rw [e2] at e; exact hv e
          · omega
        refine ⟨n + 1, r1, ks ++ [⟨b1, o1, a1, l1, A3, cap3, b3, o3⟩], by go_num, by omega, by rw [List.length_append]; have := Hnk.out; simp; omega, ?_, hgr, ar1, ?_, ?_, by omega, ?_, ?_, ?_, ?_, ?_, ?_⟩
        · rw [foOf_append]; exact Hl.out
        · rw [show o + (n + 1) * 4 = o + n * 4 + 4 from by omega]
          exact RepF.keep (Nat.le_refl _) (fun q j hq => World.cell?_of_block (hstep q (by omega) (fun e => by have := hvk q e; have := hbl.size; omega))) hr1
        · exact hbl.trans ⟨hgrow.os.trans hbr.os, hgrow.tape.trans hbr.tape, hgrow.output.trans hbr.output, by omega, fun q hq => hstep q (by omega) (fun e => by have := hvk q e; omega)⟩
        · exact hx'.of (hstep _ (by omega) (fun e => by have := hvk _ e; omega)) (by omega)
        · exact hy.of (hstep _ (by omega) (fun e => by have := hvk _ e; omega)) (by omega)
        · intro q; rw [World.frozen?_of_block (w := wr) (hstep w.heap.size (by omega) (fun e => by have := hvk _ e; omega))]; exact hfx q
        · intro q; rw [World.frozen?_of_block (w := wr) (hstep (w.heap.size + 1) (by omega) (fun e => by have := hvk _ e; omega))]; exact hfy q
        · rw [rowOf_append]; exact hown2
        · intro k hk
          rcases List.mem_append.1 hk with hk | hk
          · refine (hks k hk).keep (fun q hq => ⟨hq.1, by omega, ?_⟩) (fun q j hq => World.cell?_of_block (hstep q hq.2.1 hq.2.2))
            intro e; exact hg2 q hq.1 (by omega) hq.2.2 (by injection e)
          · simp at hk; subst hk
            refine ⟨hfa, hn3, HA3.out, ?_⟩
            refine RepG.keep (fun q hq => ⟨by simp at hq; omega, by simp at hq; omega, ?_⟩) (fun q j hq => ?_) hl3
            · simp at hq
              refine World.cell?_of_block ?_
              rw [hgrow.block q (by simp; omega) (fun e => by have := hvk q e.symm; omega)]
              exact Below.heap_alloc _ _ _ (by omega)
            · simp at hq
              intro e; exact hg2 q (by omega) hq.2 (fun e => by have := hvk q e; omega) (by injection e)
      case measure => simp [intOf]; omega

theorem fresh_all : ∀ f : Fo, AllF FreshOk f
  | .nil => trivial
  | .node _ _ a l r => ⟨fresh_step a l (fresh_all l), fresh_all r⟩

theorem fresh_any (a : Nd) (l : Fo) : FreshOk a l := fresh_step a l (fresh_all l)

end Go.Proofs.YtgmmbfnmojjbkaaGreatDoor
