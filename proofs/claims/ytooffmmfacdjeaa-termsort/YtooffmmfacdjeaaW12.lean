import Derived.Test.YtooffmmfacdjeaaW10
import Derived.Deep.AppendLies
namespace Go.Proofs.Ytooffmmfacdjeaa
open Go.RowKit
set_option linter.unusedVariables false
set_option linter.unusedSimpArgs false

theorem Try.infoInt : (Try.prog.info? 3).map (fun i => (i.zero, i.size, i.bytes)) = some (some (.int .i64 0), 1, 8) := by kernel_rfl

/-- All blocks of w but fb and the row of v are as they were; the row of v' is that of v, or new. -/
structure OnlyV (fb : Nat) (v v' : Value) (w w' : World) : Prop where
  os : w'.os = w.os
  tape : w'.tape = w.tape
  output : w'.output = w.output
  size : w.heap.size ≤ w'.heap.size
  block : ∀ k, k < w.heap.size → k ≠ fb → v.ownBlock ≠ some k → w'.heap[k]? = w.heap[k]?
  row : v'.ownBlock = v.ownBlock ∨ ∃ g, v'.ownBlock = some g ∧ w.heap.size ≤ g

theorem OnlyV.refl (fb : Nat) (v : Value) (w : World) : OnlyV fb v v w w := ⟨rfl, rfl, rfl, Nat.le_refl _, fun _ _ _ _ => rfl, .inl rfl⟩
theorem OnlyV.trans {fb : Nat} {u v x : Value} {w1 w2 w3 : World} (h : OnlyV fb u v w1 w2) (k : OnlyV fb v x w2 w3) : OnlyV fb u x w1 w3 := by
  refine ⟨k.os.trans h.os, k.tape.trans h.tape, k.output.trans h.output, Nat.le_trans h.size k.size, fun i hi hb hv => ?_, ?_⟩
  · refine (k.block i (Nat.lt_of_lt_of_le hi h.size) hb ?_).trans (h.block i hi hb hv)
    rcases h.row with e | ⟨g, e, hg⟩
    · rw [e]; exact hv
    · rw [e]; intro e2; injection e2 with e2; omega
  · rcases k.row with e | ⟨g, e, hg⟩
    · rcases h.row with e' | ⟨g', e', hg'⟩
      · exact .inl (e.trans e')
      · exact .inr ⟨g', e.trans e', hg'⟩
    · exact .inr ⟨g, e, Nat.le_trans h.size hg⟩
theorem OnlyV.cell {fb : Nat} {v v' : Value} {w w' : World} (h : OnlyV fb v v' w w') {q : Addr} (hq : q.block < w.heap.size) (hb : q.block ≠ fb) (hv : v.ownBlock ≠ some q.block) : w'.cell? q = w.cell? q := World.cell?_of_block (w := w) (h.block q.block hq hb hv)
theorem OnlyV.ofBelow {fb : Nat} {v : Value} {w w' : World} (h : Below w.heap.size w w') : OnlyV fb v v w w' := ⟨h.os, h.tape, h.output, h.size, fun k hk _ _ => h.block k hk, .inl rfl⟩
theorem OnlyV.toBelow {fb B : Nat} {v v' : Value} {w w' : World} (h : OnlyV fb v v' w w') (hf : B ≤ fb) (hB : B ≤ w.heap.size) (hv : ∀ k, v.ownBlock = some k → B ≤ k) : Below B w w' :=
  ⟨h.os, h.tape, h.output, h.size, fun k hk => h.block k (by omega) (by omega) (fun e => by have := hv k e; omega)⟩
theorem OnlyV.setVar {fb : Nat} {v v' : Value} {w w' : World} (h : OnlyV fb v v' w w') (o : Nat) (u : Value) : OnlyV fb v v' w (w'.setCell ⟨fb, o, none⟩ u) :=
  ⟨h.os, h.tape, h.output, by simpa [World.setCell] using h.size, fun k hk hb hv => by rw [Below.heap_setCell _ _ _ _ (by simpa using hb)]; exact h.block k hk hb hv, h.row⟩

/-- The row of v lies from base on, and is no other's. -/
theorem own_ge {w : World} {base : Nat} {e : TypeId} {size : Nat} {v : Value} {n : Nat} {xs : List Value} (h : w.ownsRow base e size v n xs) : ∀ k, v.ownBlock = some k → base ≤ k ∧ k < w.heap.size := by
  intro k hk
  rcases h.2 with ⟨rfl, _⟩ | ⟨g, cap, cur, rfl, hb, hg, _⟩
  · simp [Value.ownBlock] at hk
  · simp [Value.ownBlock] at hk; subst hk
    refine ⟨hb, ?_⟩
    rcases Nat.lt_or_ge g w.heap.size with hlt | hge
    · exact hlt
    · rw [Array.getElem?_eq_none hge] at hg; cases hg

/-- The numbers of the Nonces of a row, in the text's order. -/
def nonF : Fo → List Int
  | .nil => []
  | .node _ _ a l r => (if a.kind = 2 then [a.n] else []) ++ (nonF l ++ nonF r)

def nonT (a : Nd) (l : Fo) : List Int := (if a.kind = 2 then [a.n] else []) ++ nonF l

theorem nonF_node (b o : Nat) (a : Nd) (l r : Fo) : nonF (.node b o a l r) = nonT a l ++ nonF r := by rw [nonF, nonT, List.append_assoc]

theorem nonF_size : ∀ f : Fo, (nonF f).length ≤ sizeF f
  | .nil => Nat.le_refl _
  | .node _ _ a l r => by
    have h1 := nonF_size l
    have h2 := nonF_size r
    rw [nonF, sizeF, List.length_append, List.length_append]; split <;> simp <;> omega

/-- The captured row: its variable in block fb, its numbers. -/
def FoundAt (w : World) (fb base : Nat) (v : Value) (xs : List Int) : Prop :=
  fb < base ∧ base ≤ w.heap.size ∧ w.cell? ⟨fb, 0, none⟩ = some v ∧ w.frozen? ⟨fb, 0, none⟩ = false ∧ w.ownsRow base 3 1 v xs.length (xs.map (Value.int .i64))

set_option maxRecDepth 20000 in
set_option maxHeartbeats 2000000 in
theorem non1_any (a : Nd) (A : Option Addr) (len cap : Nat) (deep : Int) (fb base : Nat) (v : Value) (xs : List Int) (w : World) (hx : FoundAt w fb base v xs) (hxl : xs.length ≤ 1000) :
    Calls Try.prog 44 #[.agg #[.int .i64 a.kind, .int .i64 a.n, .string a.s, .slice A len cap], .int .i64 deep, .pointer (some ⟨fb, 0, none⟩)] w fun e w' =>
      e = .returned (.bool true) ∧ ∃ v', OnlyV fb v v' w w' ∧ FoundAt w' fb base v' (xs ++ (if a.kind = 2 then [a.n] else [])) := by
  obtain ⟨h1, h2, h3, h4, hown⟩ := hx
  have hfb : fb < w.heap.size := by omega
  by_cases hk : a.kind = 2
  · have hk' : (a.kind == 2) = true := by simpa using hk
    have Hk : Hid (a.kind = 2) := hk
    clear hk
    obtain ⟨i, hi, hi2⟩ : ∃ i, Try.prog.info? 3 = some i ∧ (i.zero, i.size, i.bytes) = (some (.int .i64 0), 1, 8) := by
      have := Try.infoInt; revert this; cases Try.prog.info? 3 with
      | none => intro h; simp at h
      | some i => intro h; simp at h; exact ⟨i, rfl, by simp [h]⟩
    have hz0 : i.zero = some (.int .i64 0) := congrArg (·.1) hi2
    have hz1 : i.size = 1 := congrArg (·.2.1) hi2
    have hz2 : i.bytes = 8 := congrArg (·.2.2) hi2
    have Hi2 := hi2
    clear hi2 Hi2
    go_enter Try.func44, Try.ntmps44
    go_wp2_with (at_builtin; refine wpList_append_lies _ rfl _ _ 22 rfl base 3 i (.int .i64 0) 1 8 Try.underlying22 hi hz0 hz1 hz2 rfl (by decide) v xs.length (xs.map (Value.int .i64)) rfl ?own ⟨w.heap.size + 1, 0, none⟩ 1 1 [.int .i64 a.n] rfl rfl ?c1 ?c2 (by decide) ?c3 ?c4 ?c5 _ rfl ?_)
    case own => exact (hown.alloc _).alloc _
    case c1 =>
      intro j u hj
      match j, hj with
      | 0, hj => simp at hj; subst hj; simp [Addr.add, go_sem]
    case c2 => intro u hu; simp at hu; subst hu; rfl
    case c3 => unfold maxLen; omega
    case c4 => omega
    case c5 => simp; omega
    intro g cap1 w1 hown1 hgrow hat hlt
    have hvk := own_ge hown
    have hne : some fb ≠ v.ownBlock := fun e => by have := hvk fb e.symm; omega
    have c0 : w1.cell? ⟨fb, 0, none⟩ = some v := by rw [hgrow.cell_far ⟨fb, 0, none⟩ (by simp; omega) hne]; simp [go_sem, hfb, Nat.lt_succ_of_lt hfb, h3]
    have c1 : w1.frozen? ⟨fb, 0, none⟩ = false := by rw [hgrow.frozen_far ⟨fb, 0, none⟩ (by simp; omega) hne]; simp [go_sem, hfb, Nat.lt_succ_of_lt hfb, h4]
    have hOV : OnlyV fb v (.slice (some ⟨g, 0, none⟩) (xs.length + 1) cap1) w w1 := by
      refine OnlyV.trans (v := v) (w2 := (w.alloc (.cells #[.int .i64 a.kind, .int .i64 a.n, .string a.s, .slice A len cap] 30)).alloc (.cells #[.int .i64 a.n] 3)) (OnlyV.ofBelow (by repeat (first | exact Below.refl _ _ | assumption | refine below_drewN ?_ _ | refine Below.drew ?_ | refine Below.alloc ?_ (by simp <;> omega) _ | refine Below.setCell ?_ (by simp <;> omega) _))) ?_
      refine ⟨hgrow.os, hgrow.tape, hgrow.output, hgrow.size, fun k hk hb hv => hgrow.block k hk (fun e => hv e.symm), ?_⟩
      rcases hat with e | e
      · exact .inl e.symm
      · exact .inr ⟨g, rfl, by rw [e]; simp⟩
    have hb1 : base ≤ w1.heap.size := by have := hgrow.size; simp at this; omega
    clear hgrow hat hown hvk h3 h4
    go_wp2_with fail
    go_ret
    refine ⟨rfl, _, hOV.setVar 0 _, h1, by simpa [World.setCell] using hb1, by simp [go_sem, c0, c1], by simp [go_sem, c1], ?_⟩
    try rw [if_pos Hk.out]
    have := ownsRow_setCell_below hown1 (a := ⟨fb, 0, none⟩) h1 (.slice (some ⟨g, 0, none⟩) (xs.length + 1) cap1)
    simpa using this
  · have hk' : (a.kind == 2) = false := by simpa using hk
    go_enter Try.func44, Try.ntmps44
    go_wp2_with fail
    go_ret
    refine ⟨rfl, v, OnlyV.ofBelow (by repeat (first | exact Below.refl _ _ | assumption | refine below_drewN ?_ _ | refine Below.drew ?_ | refine Below.alloc ?_ (by simp <;> omega) _ | refine Below.setCell ?_ (by simp <;> omega) _)), h1, by simp; omega, by simp [go_sem, hfb, h3], by simp [go_sem, hfb, h4], ?_⟩
    first | exact hown.alloc _ | (rw [if_neg hk, List.append_nil]; exact hown.alloc _)

theorem FoundAt.below {w w' : World} {fb base : Nat} {v : Value} {xs : List Int} (h : FoundAt w fb base v xs) (hb : Below w.heap.size w w') : FoundAt w' fb base v xs := by
  obtain ⟨h1, h2, h3, h4, h5⟩ := h
  have hlt : fb < w.heap.size := by omega
  refine ⟨h1, Nat.le_trans h2 hb.size, by rw [hb.cell (by simpa using hlt)]; exact h3, by rw [hb.frozen (by simpa using hlt)]; exact h4, ?_⟩
  refine ⟨h5.1, ?_⟩
  rcases h5.2 with k | ⟨g, cap, cur, k1, k2, k3, k4⟩
  · exact .inl k
  · refine .inr ⟨g, cap, cur, k1, k2, ?_, k4⟩
    rw [hb.block g]; exact k3
    rcases Nat.lt_or_ge g w.heap.size with hlt | hge
    · exact hlt
    · rw [Array.getElem?_eq_none hge] at k3; cases k3

def WalkNon (a : Nd) (l : Fo) : Prop := ∀ (u : Value) (B : Nat) (deep : Int) (fb base : Nat) (v : Value) (xs : List Int) (w : World), RepV w B a l u → B ≤ fb → 0 ≤ deep → deep + (1 + sizeF l) ≤ 2000 → xs.length + (1 + sizeF l) ≤ 1000 →
    FoundAt w fb base v xs →
    Calls Try.prog 39 #[u, .int .i64 deep, .func (.func 44) #[] #[.pointer (some ⟨fb, 0, none⟩)]] w fun e w' =>
      e = .returned (.bool true) ∧ ∃ v', OnlyV fb v v' w w' ∧ FoundAt w' fb base v' (xs ++ nonT a l)

set_option maxHeartbeats 2000000 in
theorem walkNon_step (a : Nd) (l : Fo) (ih : AllF WalkNon l) : WalkNon a l := by
  rintro u B deep fb base v xs w ⟨hf, A, cap, b, o, rfl, hn, hA, hr⟩ hB hd0 hd1 hxl hx
  have HA : Hid (flen l = 0 ∨ A = some ⟨b, o, none⟩) := hA
  clear hA
  have hx1 := hx.below (Below.alloc (Below.refl _ _) (Nat.le_refl _) (.cells #[.int .i64 a.kind, .int .i64 a.n, .string a.s, .slice A (flen l) cap] 30))
  have hfb : fb < w.heap.size := by have := hx.1; have := hx.2.1; omega
  go_enter Try.func39, Try.ntmps39
  go_wp2_with fail
  refine (non1_any a A (flen l) cap deep fb base v xs _ hx1 (by omega)).mono ?_
  rintro e w1 ⟨rfl, v1, ho, hx2⟩
  have hvk := own_ge hx.2.2.2.2
  have hbx : w1.cell? ⟨w.heap.size, 3, none⟩ = some (.slice A (flen l) cap) := by rw [ho.cell (by simp) (by simp; omega) (fun e => by have := hvk _ e; simp at this)]; simp [go_sem]
  have how0 : OnlyV fb v v1 w w1 := (OnlyV.ofBelow (Below.alloc (Below.refl _ _) (Nat.le_refl _) _)).trans ho
  have hBl : ∀ k, v.ownBlock = some k → B ≤ k := fun k e => by have := hvk k e; have := hx.1; omega
  have hsz1 : w.heap.size < w1.heap.size := by have := ho.size; simp at this; omega
  go_wp2_with fail
  go_loopw [16] (fun iv wr => ∃ (i : Nat) (g : Fo) (vi : Value) (ys : List Int), iv = .int .i64 i ∧ i + flen g = flen l ∧ AllF WalkNon g ∧ RepF wr B g b (o + i * 4) ∧ ys ++ nonF g = xs ++ nonT a l ∧ ys.length + sizeF g ≤ 1000 ∧ sizeF g ≤ sizeF l ∧
        OnlyV fb v vi w wr ∧ w.heap.size < wr.heap.size ∧ wr.cell? ⟨w.heap.size, 3, none⟩ = some (.slice A (flen l) cap) ∧ FoundAt wr fb base vi ys ∧ vi.ownBlock ≠ some w.heap.size) (fun iv _ => flen l - (intOf iv).toNat)
  case atStart =>
    refine ⟨0, l, v1, xs ++ (if a.kind = 2 then [a.n] else []), rfl, by simp, ih, ?_, by rw [nonT, List.append_assoc], ?_, Nat.le_refl _, how0, hsz1, hbx, hx2, ?_⟩
    · rw [show o + 0 * 4 = o from by omega]
      exact hr.below (how0.toBelow hB (by omega) hBl)
    · rw [List.length_append]; split <;> simp <;> omega
    · intro e
      rcases ho.row with h | ⟨g, h, hg⟩
      · rw [h] at e; have := hvk _ e; omega
      · rw [h] at e; injection e with e; simp at hg; omega
  case round =>
    obtain ⟨i, g, vi, ys, rfl, hi, hg, hrg, hys, hyl, hsl, how, hsz, hbx1, hxw, hvi⟩ := hrel
    have Hys : Hid (ys ++ nonF g = xs ++ nonT a l) := hys
    have Hvi : Hid (vi.ownBlock ≠ some w.heap.size) := hvi
    clear hys hvi hbx ho hr hx2 hsz1 how0 hx1
    cases g with
    | nil =>
      simp only [flen] at hi
      go_wp2_with fail
      go_ret
      refine ⟨rfl, vi, how, ?_⟩
      have := Hys.out; simp only [nonF, List.append_nil] at this
      rw [← this]; exact hxw
    | node b1 o1 a1 l1 r1 =>
      obtain ⟨hb1, hf1, e0, e1, e2, ⟨A1, cap1, b2, o2, e3, hn1, hA1, hl1⟩, hr1⟩ := hrg
      obtain ⟨hw1, hgr⟩ := hg
      simp only [flen] at hi
      simp only [sizeF] at hsl hyl
      obtain rfl : A = some ⟨b, o, none⟩ := by rcases HA.out with h | h; omega; exact h
      have HA1 : Hid (flen l1 = 0 ∨ A1 = some ⟨b2, o2, none⟩) := hA1
      clear hA1
      go_wp2_with fail
      refine (hw1 _ B (deep + 1) fb base vi ys wr ⟨hf1, A1, cap1, b2, o2, rfl, hn1, HA1.out, hl1⟩ hB (by omega) (by omega) (by omega) hxw).mono ?_
      rintro e w2 ⟨rfl, v2, ho2, hx3⟩
      go_wp2_with fail
      go_roundw
      case rel =>
        have hvk2 := own_ge hxw.2.2.2.2
        refine ⟨i + 1, r1, v2, ys ++ nonT a1 l1, by go_num, by omega, hgr, ?_, ?_, ?_, by omega, how.trans ho2, by have := ho2.size; omega, ?_, hx3, ?_⟩
        · rw [show o + (i + 1) * 4 = o + i * 4 + 4 from by omega]
          exact hr1.below (ho2.toBelow hB (by have := how.size; omega) (fun k e => by have := hvk2 k e; have := hxw.1; omega))
        · rw [← Hys.out, nonF_node, List.append_assoc]
        · have := nonF_size l1
          rw [List.length_append, nonT, List.length_append]; split <;> simp <;> omega
        · rw [ho2.cell (by simp; omega) (by simp; omega) Hvi.out]; exact hbx1
        · intro e
          rcases ho2.row with h | ⟨g, h, hg⟩
          · rw [h] at e; exact Hvi.out e
          · rw [h] at e; injection e with e; omega
      case measure => simp [intOf]; omega

theorem walkNon_all : ∀ f : Fo, AllF WalkNon f
  | .nil => trivial
  | .node _ _ a l r => ⟨walkNon_step a l (walkNon_all l), walkNon_all r⟩

end Go.Proofs.Ytooffmmfacdjeaa
