import Derived.Test.YtfoeeocejcbmlaaGreatDoorAB
import Derived.Test.YtfoeeocejcbmlaaGreatDoorBA
import Derived.Lib.Strings
import Derived.Lib.IndexLaws
namespace Go.Proofs.YtfoeeocejcbmlaaGreatDoor
open Go.RowKit
set_option linter.unusedVariables false
set_option linter.unusedSimpArgs false

/-- What stands between the bytes that part. -/
def brk (q : UInt8 → Bool) : List UInt8 → List UInt8 → List (List UInt8)
  | [], acc => [acc]
  | c :: t, acc => if q c = true then acc :: brk q t [] else brk q t (acc ++ [c])

theorem brk_at (q : UInt8 → Bool) (c : UInt8) (hc : q c = true) : ∀ (x acc y : List UInt8), brk q (x ++ c :: y) acc = brk q x acc ++ brk q y []
  | [], acc, y => by simp [brk, hc]
  | d :: x, acc, y => by
    simp only [List.cons_append, brk]
    split
    · rw [brk_at q c hc x [] y]; rfl
    · exact brk_at q c hc x _ y

theorem brk_none (q : UInt8 → Bool) : ∀ (x acc : List UInt8), (∀ c ∈ x, q c = false) → brk q x acc = [acc ++ x]
  | [], acc, _ => by simp [brk]
  | d :: x, acc, h => by
    rw [brk, if_neg (by rw [h d (by simp)]; decide), brk_none q x _ (fun c hc => h c (by simp [hc]))]; simp

theorem brk_ne (q : UInt8 → Bool) : ∀ (x acc : List UInt8), brk q x acc ≠ []
  | [], acc => by simp [brk]
  | d :: x, acc => by rw [brk]; split; · simp
                      · exact brk_ne q x _

theorem brk_sum (q : UInt8 → Bool) : ∀ (x acc : List UInt8), ((brk q x acc).map fun p => p.length + 1).sum = x.length + acc.length + 1
  | [], acc => by simp [brk]
  | d :: x, acc => by
    rw [brk]; split
    · rw [List.map_cons, List.sum_cons, brk_sum q x []]; simp; omega
    · rw [brk_sum q x _]; simp; omega

theorem brk_pure (q : UInt8 → Bool) : ∀ (x acc : List UInt8), (∀ c ∈ acc, q c = false) → ∀ p ∈ brk q x acc, ∀ c ∈ p, q c = false
  | [], acc, h, p, hp => by simp [brk] at hp; subst hp; exact h
  | d :: x, acc, h, p, hp => by
    rw [brk] at hp; split at hp
    · rcases List.mem_cons.1 hp with rfl | hp
      · exact h
      · exact brk_pure q x [] (by simp) p hp
    · next hd =>
      exact brk_pure q x _ (fun c hc => by
        rcases List.mem_append.1 hc with hc | hc
        · exact h c hc
        · simp at hc; subst hc; simpa using hd) p hp

theorem tail_at (s : ByteArray) (pos : Nat) (h : pos < s.size) : s.data.toList.drop pos = (s[pos]'h) :: s.data.toList.drop (pos + 1) := by
  rw [List.drop_eq_getElem_cons (by simpa using h)]; rfl

theorem ext_list (s : ByteArray) (a b : Nat) : (s.extract a b).data.toList = (s.data.toList.drop a).take (b - a) := by
  rw [Lib.extract_data]

theorem ext_snoc (s : ByteArray) (a pos : Nat) (h : pos < s.size) (ha : a ≤ pos) : (s.extract a (pos + 1)).data.toList = (s.extract a pos).data.toList ++ [s[pos]'h] := by
  rw [ext_list, ext_list, show pos + 1 - a = (pos - a) + 1 by omega, List.take_add_one, List.getElem?_drop, show a + (pos - a) = pos by omega, List.getElem?_eq_getElem (by simpa using h)]
  rfl

theorem ext_ne (s : ByteArray) (a b : Nat) (h : a < b) (hb : b ≤ s.size) : ((s.extract a b).data.toList.isEmpty) = false := by
  rw [ext_list]
  cases e : ((s.data.toList.drop a).take (b - a)) with
  | nil =>
    have := congrArg List.length e
    rw [List.length_take, List.length_drop] at this
    have hs : s.data.toList.length = s.size := by simp
    rw [hs, List.length_nil] at this; omega
  | cons _ _ => rfl

theorem brk_le (q : UInt8 → Bool) (x acc p : List UInt8) (hp : p ∈ brk q x acc) : p.length ≤ x.length + acc.length := by
  have h := brk_sum q x acc
  have : p.length + 1 ≤ ((brk q x acc).map fun p => p.length + 1).sum := by
    generalize brk q x acc = l at *
    clear h
    induction l with
    | nil => cases hp
    | cons a l ih =>
      rcases List.mem_cons.1 hp with rfl | hp
      · simp only [List.map_cons, List.sum_cons]; omega
      · have := ih hp; simp only [List.map_cons, List.sum_cons]; omega
  omega

theorem one_ext (s : ByteArray) (i : Nat) (h : i < s.size) : s.extract i (i + 1) = ⟨#[s[i]'h]⟩ := by
  apply ba_ext
  rw [ext_list, tail_at s i h, show i + 1 - i = 1 by omega]; rfl

/-- A row of texts of one's own. -/
def OwnS (w : World) (B : Nat) (v : Value) (ps : List ByteArray) : Prop := w.ownsRow B 9 1 v ps.length (ps.map Value.string)
theorem Tryz.infoStr : (Tryz.prog.info? 9).map (fun i => (i.zero, i.size, i.bytes)) = some (some (.string ⟨#[]⟩), 1, 16) := by kernel_rfl
theorem OwnS.below {w w' : World} {B : Nat} {v : Value} {ps : List ByteArray} (h : OwnS w B v ps) (hb : Below w.heap.size w w') : OwnS w' B v ps :=
  World.ownsRow.kept h (row := none) ⟨hb.os, hb.tape, hb.output, hb.size, fun k hk _ => hb.block k hk⟩ (Classical.em _)
theorem OwnS.nil (w : World) (B : Nat) : OwnS w B (.slice none 0 0) [] := World.ownsRow_nil _ _ _ _
theorem OwnS.snoc {w : World} {B : Nat} {v : Value} {ps : List ByteArray} {x : ByteArray} (h : w.ownsRow B 9 1 v (ps.length + 1) (ps.map Value.string ++ [.string x])) : OwnS w B v (ps ++ [x]) := by
  unfold OwnS; simpa using h

theorem below_endR {w wr w6 : World} {B : Nat} {o : Obj} {u v6 : Value} {e : TypeId} {sz n : Nat} {xs : List Value} (hb : Below B w wr) (hown : wr.ownsRow B e sz u n xs) (hg : (wr.alloc o).grownBy w6 u.ownBlock) (hat : v6.ownBlock = u.ownBlock ∨ v6.ownBlock = some (wr.heap.size + 1)) (hB : B ≤ wr.heap.size) : Below B w w6 :=
  hb.trans ((Grew.step ((Grew.refl wr u).alloc o) hg (by simpa using hat)).toBelow (fun q hq => (hown.lt q hq).1) hB)

/-- A row of texts that stands. -/
def RowS (w : World) (v : Value) (ps : List ByteArray) : Prop :=
  ∃ A cap, v = .slice A ps.length cap ∧ (ps.length = 0 ∨ ∃ b o, A = some ⟨b, o, none⟩ ∧ b < w.heap.size ∧ ∀ i, i < ps.length → w.cell? ⟨b, o + i, none⟩ = some (.string (ps.getD i ⟨#[]⟩)))

theorem RowS.below {w w' : World} {v : Value} {ps : List ByteArray} (h : RowS w v ps) (hb : Below w.heap.size w w') : RowS w' v ps := by
  obtain ⟨A, cap, rfl, h | ⟨b, o, rfl, hl, hc⟩⟩ := h
  · exact ⟨A, cap, rfl, .inl h⟩
  · exact ⟨_, cap, rfl, .inr ⟨b, o, rfl, Nat.lt_of_lt_of_le hl hb.size, fun i hi => by rw [hb.cell (by simpa using hl)]; exact hc i hi⟩⟩

theorem OwnS.row {w : World} {B : Nat} {v : Value} {ps : List ByteArray} (h : OwnS w B v ps) : RowS w v ps := by
  rcases World.ownsRow.lt h with hlt
  rcases h.2 with ⟨h1, h2⟩ | ⟨g, cap, cur, h3, h4, h5, _⟩
  · exact ⟨none, 0, by rw [h1, h2], .inl h2⟩
  · have h' := h
    unfold OwnS at h'
    rw [h3] at h' hlt
    refine ⟨_, cap, h3, .inr ⟨g, 0, rfl, (hlt g rfl).2, fun i hi => ?_⟩⟩
    rw [Nat.zero_add, World.ownsRow.cellAt h' i (by omega)]
    simp [List.getD, List.getElem?_eq_getElem hi]

end Go.Proofs.YtfoeeocejcbmlaaGreatDoor
