import Derived.Test.YtfoeeocejcbmlaaGreatDoorQA
import Derived.Test.YtfoeeocejcbmlaaGreatDoorShelf
namespace Go.Proofs.YtfoeeocejcbmlaaGreatDoor
open Go.RowKit
set_option linter.unusedVariables false
set_option linter.unusedSimpArgs false

/-- The cells of some fields. -/
def cellsF (l : List Fd) : List Value := l.flatMap fun f => [.string f.1, .string f.2]

theorem cellsF_at : ∀ (l : List Fd) (i : Nat), i < l.length → (cellsF l)[i * 2]? = some (.string (l.getD i fd0).1) ∧ (cellsF l)[i * 2 + 1]? = some (.string (l.getD i fd0).2)
  | [], i, h => by simp at h
  | f :: l, 0, _ => by simp [cellsF]
  | f :: l, i + 1, h => by
    have ih := cellsF_at l i (by simpa using h)
    have e : cellsF (f :: l) = .string f.1 :: .string f.2 :: cellsF l := rfl
    rw [e, show (i + 1) * 2 = i * 2 + 1 + 1 by omega]
    simpa [List.getD] using ih
theorem cellsF_snoc (l : List Fd) (f : Fd) : cellsF (l ++ [f]) = cellsF l ++ [.string f.1, .string f.2] := by simp [cellsF]
theorem cellsF_app (l m : List Fd) : cellsF (l ++ m) = cellsF l ++ cellsF m := by simp [cellsF]
theorem cellsF_len (l : List Fd) : (cellsF l).length = l.length * 2 := by
  induction l with
  | nil => rfl
  | cons f l ih => have e : cellsF (f :: l) = .string f.1 :: .string f.2 :: cellsF l := rfl
                   rw [e, List.length_cons, List.length_cons, ih, List.length_cons]; omega

/-- A row of fields of one's own. -/
def OwnF (w : World) (B : Nat) (v : Value) (l : List Fd) : Prop := w.ownsRow B 72 2 v l.length (cellsF l)
theorem Tryz.infoFd : (Tryz.prog.info? 72).map (fun i => (i.zero, i.size, i.bytes)) = some (some (.agg #[.string ⟨#[]⟩, .string ⟨#[]⟩]), 2, 32) := by kernel_rfl
theorem OwnF.below {w w' : World} {B : Nat} {v : Value} {l : List Fd} (h : OwnF w B v l) (hb : Below w.heap.size w w') : OwnF w' B v l :=
  World.ownsRow.kept h (row := none) ⟨hb.os, hb.tape, hb.output, hb.size, fun k hk _ => hb.block k hk⟩ (Classical.em _)
theorem OwnF.nil (w : World) (B : Nat) : OwnF w B (.slice none 0 0) [] := World.ownsRow_nil _ _ _ _
theorem OwnF.snoc {w : World} {B : Nat} {v : Value} {l : List Fd} {f : Fd} (h : w.ownsRow B 72 2 v (l.length + 1) (cellsF l ++ [.string f.1, .string f.2])) : OwnF w B v (l ++ [f]) := by
  unfold OwnF; rw [cellsF_snoc]; simpa using h

theorem OwnF.lower {w : World} {B B' : Nat} {v : Value} {l : List Fd} (h : OwnF w B v l) (hb : B' ≤ B) : OwnF w B' v l := by
  refine ⟨h.1, ?_⟩
  rcases h.2 with h2 | ⟨g, cap, cur, e, h3, h4⟩
  · exact .inl h2
  · exact .inr ⟨g, cap, cur, e, Nat.le_trans hb h3, h4⟩

/-- A row of fields that stands. -/
def RowF (w : World) (v : Value) (l : List Fd) : Prop :=
  ∃ A cap, v = .slice A l.length cap ∧ l.length ≤ cap ∧ (l.length = 0 ∨ ∃ b o, A = some ⟨b, o, none⟩ ∧ b < w.heap.size ∧ ∀ i, i < l.length → w.cell? ⟨b, o + i * 2, none⟩ = some (.string (l.getD i fd0).1) ∧ w.cell? ⟨b, o + i * 2 + 1, none⟩ = some (.string (l.getD i fd0).2))

theorem RowF.below {w w' : World} {v : Value} {l : List Fd} (h : RowF w v l) (hb : Below w.heap.size w w') : RowF w' v l := by
  obtain ⟨A, cap, rfl, hcp, h | ⟨b, o, rfl, hl, hc⟩⟩ := h
  · exact ⟨A, cap, rfl, hcp, .inl h⟩
  · exact ⟨_, cap, rfl, hcp, .inr ⟨b, o, rfl, Nat.lt_of_lt_of_le hl hb.size, fun i hi => by rw [hb.cell (by simpa using hl), hb.cell (by simpa using hl)]; exact hc i hi⟩⟩
theorem RowF.nil (w : World) : RowF w (.slice none 0 0) [] := ⟨none, 0, rfl, Nat.le_refl _, .inl rfl⟩

theorem OwnF.row {w : World} {B : Nat} {v : Value} {l : List Fd} (h : OwnF w B v l) : RowF w v l := by
  rcases World.ownsRow.lt h with hlt
  rcases h.2 with ⟨h1, h2⟩ | ⟨g, cap, cur, h3, h4, h5, hcp, _⟩
  · exact ⟨none, 0, by rw [h1, h2], by omega, .inl h2⟩
  · have h' := h
    unfold OwnF at h'
    rw [h3] at h' hlt
    refine ⟨_, cap, h3, hcp, .inr ⟨g, 0, rfl, (hlt g rfl).2, fun i hi => ?_⟩⟩
    have hc := cellsF_at l i hi
    rw [Nat.zero_add, World.ownsRow.cellAt h' (i * 2) (by omega), World.ownsRow.cellAt h' (i * 2 + 1) (by omega)]
    exact hc

theorem drop_fd (l : List Fd) (i : Nat) (h : i < l.length) : l.drop i = l.getD i fd0 :: l.drop (i + 1) := by
  rw [List.drop_eq_getElem_cons h]; simp [List.getD, List.getElem?_eq_getElem h]
theorem getD_mem (l : List Fd) (i : Nat) (h : i < l.length) : l.getD i fd0 ∈ l := by
  simp [List.getD, List.getElem?_eq_getElem h]

theorem hasF_cons (g : Fd) (l : List Fd) (n : ByteArray) : hasF (g :: l) n = (decide (g.1 = n) || hasF l n) := rfl

set_option maxHeartbeats 1000000 in
theorem qclone_any (s : ByteArray) (hs : s.size ≤ 1000000) (w : World) :
    Calls Tryz.prog 44 #[.string s] w fun e w' => e = .returned (.string s) ∧ Below w.heap.size w w' := by
  go_enter Tryz.func44, Tryz.ntmps44
  go_wp2_with fail
  refine (Tryz.stringslite_Clone s _ (by omega)).mono ?_
  rintro e w1 ⟨rfl, h1⟩
  go_wp2_with fail
  go_ret
  exact ⟨rfl, h1⟩

theorem heap_set (w : World) (a : Addr) (v : Value) : (w.setCell a v).heap.size = w.heap.size := by simp [World.setCell]

set_option maxRecDepth 100000 in
set_option maxHeartbeats 1000000 in
theorem rget_any (l : List Fd) (v : Value) (n : ByteArray) (w : World) (hl : l.length ≤ 1000000) (hv : RowF w v l) :
    Calls Tryz.prog 70 #[v, .string n] w fun e w' => e = .returned (.tuple #[.string (getF l n), .bool (hasF l n)]) ∧ w' = w := by
  obtain ⟨A, cap, rfl, hcp, hA⟩ := hv
  go_enter Tryz.func70, Tryz.ntmps70
  go_wp2_with fail
  go_loopw [6] (fun iv wr => ∃ i : Nat, iv = .int .i64 (i : Int) ∧ i ≤ l.length ∧ getF l n = getF (l.drop i) n ∧ hasF l n = hasF (l.drop i) n ∧ wr = w) (fun iv _ => l.length - (intOf iv).toNat)
  case atStart => exact ⟨0, rfl, Nat.zero_le _, rfl, rfl, rfl⟩
  case round =>
    obtain ⟨i, rfl, hi, hg, hh, rfl⟩ := hrel
    by_cases hp : i < l.length
    · have hp' : (i : Int) < (l.length : Int) := by omega
      obtain ⟨b, o, rfl, hbl, hc⟩ : ∃ b o, A = some ⟨b, o, none⟩ ∧ b < wr.heap.size ∧ ∀ i, i < l.length → wr.cell? ⟨b, o + i * 2, none⟩ = some (.string (l.getD i fd0).1) ∧ wr.cell? ⟨b, o + i * 2 + 1, none⟩ = some (.string (l.getD i fd0).2) := by
        rcases hA with h | h
        · omega
        · exact h
      obtain ⟨c1, c2⟩ := hc i hp
      rw [drop_fd l i hp] at hg hh
      clear hc
      generalize l.getD i fd0 = f at *
      obtain ⟨x, y⟩ := f
      simp only at c1 c2
      by_cases he : x = n
      · have heq := toList_eq he
        have HG : Hid (getF l n = y ∧ hasF l n = true) := ⟨by rw [hg, getF, if_pos he], by rw [hh, hasF_cons]; simp [he]⟩
        clear hg hh he
        go_wp2_with fail
        exact bodyPost_ret (v := .tuple #[.string y, .bool true]) (by simp [results, Tryz.results70, go_sem]) rfl ⟨by rw [HG.out.1, HG.out.2], rfl⟩
      · have heq := toList_ne he
        have HG : Hid (getF l n = getF (l.drop (i + 1)) n ∧ hasF l n = hasF (l.drop (i + 1)) n) := ⟨by rw [hg, getF, if_neg he], by rw [hh, hasF_cons]; simp [he]⟩
        clear hg hh he
        go_wp2_with fail
        go_roundw
        case rel => exact ⟨i + 1, by go_num, by omega, HG.out.1, HG.out.2, trivial⟩
        case measure => simp [intOf]; omega
    · have hp' : ¬ (i : Int) < (l.length : Int) := by omega
      have HG : Hid (getF l n = ⟨#[]⟩ ∧ hasF l n = false) := by
        rw [List.drop_of_length_le (by omega)] at hg hh
        exact ⟨hg, hh⟩
      clear hg hh
      go_wp2_with fail
      exact bodyPost_ret (v := .tuple #[.string ⟨#[]⟩, .bool false]) (by simp [results, Tryz.results70, go_sem]) rfl ⟨by rw [HG.out.1, HG.out.2], rfl⟩

set_option maxRecDepth 100000 in
set_option maxHeartbeats 1000000 in
theorem rhas_any (l : List Fd) (v : Value) (n : ByteArray) (w : World) (hl : l.length ≤ 1000000) (hv : RowF w v l) :
    Calls Tryz.prog 52 #[v, .string n] w fun e w' => e = .returned (.bool (hasF l n)) ∧ w' = w := by
  have hg := rget_any l v n w hl hv
  generalize getF l n = y at *
  generalize hasF l n = z at *
  go_enter Tryz.func52, Tryz.ntmps52
  go_wp2_with (go_at_call 70; refine hg.mono ?_; rintro e w1 ⟨rfl, rfl⟩)
  go_ret
  exact ⟨rfl, rfl⟩

end Go.Proofs.YtfoeeocejcbmlaaGreatDoor
