import Derived.Test.YtgmmbfnmojjbkaaGreatDoorF0
import Derived.Lib.FieldsP
import Derived.Lib.SplitLaws
import Derived.Lib.DecodeN
import Derived.Laws.RangeAny
import Derived.Test.YtgmmbfnmojjbkaaGreatDoorShelf
import Derived.Test.YtgmmbfnmojjbkaaGreatDoorAB
import Derived.Test.YtgmmbfnmojjbkaaGreatDoorBA
import Derived.Test.YtgmmbfnmojjbkaaGreatDoorFB
import Derived.Test.YtgmmbfnmojjbkaaGreatDoorC20
namespace Go.Proofs.YtgmmbfnmojjbkaaGreatDoor
open Go.RowKit
set_option linter.unusedVariables false
set_option linter.unusedSimpArgs false

/-- What stands between the bytes that part. -/
def brk (q : UInt8 → Bool) : List UInt8 → List UInt8 → List (List UInt8)
  | [], acc => [acc]
  | c :: t, acc => if q c = true then acc :: brk q t [] else brk q t (acc ++ [c])

theorem brk_at (q : UInt8 → Bool) (c : UInt8) (hc : q c = true) : ∀ (x acc y : List UInt8), brk q (x ++ c :: y) acc = brk q x acc ++ brk q y []
  | [], acc, y => by simp [brk, hc]
  | d :: x, acc, y => by
    simp only [List.cons_append, brk]
    split
    · rw [brk_at q c hc x [] y]; rfl
    · exact brk_at q c hc x _ y

theorem brk_none (q : UInt8 → Bool) : ∀ (x acc : List UInt8), (∀ c ∈ x, q c = false) → brk q x acc = [acc ++ x]
  | [], acc, _ => by simp [brk]
  | d :: x, acc, h => by
    rw [brk, if_neg (by rw [h d (by simp)]; decide), brk_none q x _ (fun c hc => h c (by simp [hc]))]; simp

theorem brk_ne (q : UInt8 → Bool) : ∀ (x acc : List UInt8), brk q x acc ≠ []
  | [], acc => by simp [brk]
  | d :: x, acc => by rw [brk]; split; · simp
                      · exact brk_ne q x _

theorem brk_sum (q : UInt8 → Bool) : ∀ (x acc : List UInt8), ((brk q x acc).map fun p => p.length + 1).sum = x.length + acc.length + 1
  | [], acc => by simp [brk]
  | d :: x, acc => by
    rw [brk]; split
    · rw [List.map_cons, List.sum_cons, brk_sum q x []]; simp; omega
    · rw [brk_sum q x _]; simp; omega

theorem brk_pure (q : UInt8 → Bool) : ∀ (x acc : List UInt8), (∀ c ∈ acc, q c = false) → ∀ p ∈ brk q x acc, ∀ c ∈ p, q c = false
  | [], acc, h, p, hp => by simp [brk] at hp; subst hp; exact h
  | d :: x, acc, h, p, hp => by
    rw [brk] at hp; split at hp
    · rcases List.mem_cons.1 hp with rfl | hp
      · exact h
      · exact brk_pure q x [] (by simp) p hp
    · next hd =>
      exact brk_pure q x _ (fun c hc => by
        rcases List.mem_append.1 hc with hc | hc
        · exact h c hc
        · simp at hc; subst hc; simpa using hd) p hp

/-- All but the first and the last. -/
def mid {α : Type} (l : List α) : List α := (l.drop 1).dropLast

theorem mid_len {α : Type} (l : List α) : (mid l).length = l.length - 2 := by simp [mid]; omega
theorem mid_get {α : Type} (l : List α) (i : Nat) (h : i + 2 < l.length) : (mid l)[i]? = l[i + 1]? := by
  unfold mid
  rw [List.getElem?_dropLast, if_pos (by simp; omega), List.getElem?_drop, Nat.add_comm]
theorem mid_mem {α : Type} (a b : List α) (x : α) (ha : a ≠ []) (hb : b ≠ []) : x ∈ mid (a ++ x :: b) := by
  cases a with
  | nil => exact absurd rfl ha
  | cons y a =>
    unfold mid
    simp only [List.cons_append, List.drop_succ_cons, List.drop_zero]
    rw [List.dropLast_append_of_ne_nil (by simp)]
    cases b with
    | nil => exact absurd rfl hb
    | cons z b => simp

/-- The edge of a mark; the signs of what is read. -/
def tq (c : UInt8) : Bool := c == 126
def nq (c : UInt8) : Bool := decide (sgI c < 0)

/-- What stands between two edges of a text. -/
def mks (s : List UInt8) : List (List UInt8) := mid (brk tq s [])
theorem mks_len (s : List UInt8) : (mks s).length ≤ s.length := by
  have h := brk_sum tq s []
  have h2 : (brk tq s []).length ≤ ((brk tq s []).map fun p => p.length + 1).sum := by
    generalize brk tq s [] = l
    induction l with
    | nil => simp
    | cons a l ih => simp; omega
  rw [mks, mid_len]; simp at h; omega
theorem mks_nil : mks [] = [] := rfl

/-- What the runs of signs of a text are read as. -/
def insL (s : List UInt8) : List (List UInt8) := ((brk nq s []).filter fun r => dOk r).map gL
def insP (s : List UInt8) : List (List UInt8) := (((brk nq s []).filter fun r => !r.isEmpty).filter fun r => dOk r).map gL

theorem gL_nil : gL [] = [] := by decide +kernel

/-- The two differ in texts that are empty. -/
theorem insP_mem (s x : List UInt8) (hx : x ∈ insL s) : x = [] ∨ x ∈ insP s := by
  unfold insL at hx
  obtain ⟨r, hr, rfl⟩ := List.mem_map.1 hx
  cases hr0 : r with
  | nil => exact .inl gL_nil
  | cons a t =>
    refine .inr (List.mem_map.2 ⟨r, List.mem_filter.2 ⟨List.mem_filter.2 ⟨(List.mem_filter.1 hr).1, by rw [hr0]; rfl⟩, (List.mem_filter.1 hr).2⟩, by rw [hr0]⟩)
theorem insL_mem (s x : List UInt8) (hx : x ∈ insP s) : x ∈ insL s := by
  obtain ⟨r, hr, rfl⟩ := List.mem_map.1 hx
  have h := List.mem_filter.1 hr
  exact List.mem_map.2 ⟨r, List.mem_filter.2 ⟨(List.mem_filter.1 h.1).1, h.2⟩, rfl⟩

/-- Runes parted as bytes are. -/
def nqR (r : Nat) : Bool := if r < 128 then nq (UInt8.ofNat r) else true

theorem nq_high_all : ∀ c : Fin 256, 128 ≤ c.1 → nq (UInt8.ofNat c.1) = true := by decide +kernel
theorem nq_high (c : UInt8) (h : 128 ≤ c.toNat) : nq c = true := by
  have := nq_high_all ⟨c.toNat, c.toNat_lt⟩ h
  simpa using this

theorem conts (n b0 b1 b2 b3 : Nat) :
    (2 ≤ (Lib.decodeN n b0 b1 b2 b3).2 → 128 ≤ b1) ∧ (3 ≤ (Lib.decodeN n b0 b1 b2 b3).2 → 128 ≤ b2) ∧ (4 ≤ (Lib.decodeN n b0 b1 b2 b3).2 → 128 ≤ b3) ∧ (Lib.decodeN n b0 b1 b2 b3).2 ≤ 4 ∧ ((Lib.decodeN n b0 b1 b2 b3).2 ≤ n ∨ n = 0) := by
  unfold Lib.decodeN
  repeat' split
  all_goals (simp only; omega)

/-- The bytes of a high rune are high. -/
theorem high_bytes (s : ByteArray) (pos : Nat) (h : pos < s.size) (ha : 128 ≤ (s[pos]'h).toNat) : pos + (Utf8.decode s pos).2 ≤ s.size ∧ ∀ j, j < (Utf8.decode s pos).2 → ∀ (hj : pos + j < s.size), 128 ≤ (s[pos + j]'hj).toNat := by
  have hg : ∀ i (hi : i < s.size), s[i]'hi = s.get! i := fun i hi => by
    show s.data[i]'hi = s.data[i]!
    rw [getElem!_pos]
  have hc := conts (s.size - pos) (s.get! pos).toNat (s.get! (pos + 1)).toNat (s.get! (pos + 2)).toNat (s.get! (pos + 3)).toNat
  rw [← Lib.decode_at] at hc
  obtain ⟨c1, c2, c3, c4, c5⟩ := hc
  refine ⟨by omega, fun j hj hjs => ?_⟩
  rw [hg]
  rcases (show j = 0 ∨ j = 1 ∨ j = 2 ∨ j = 3 by omega) with rfl | rfl | rfl | rfl
  · rw [hg] at ha; exact ha
  · exact c1 (by omega)
  · exact c2 (by omega)
  · exact c3 (by omega)

/-- Runs that are not empty. -/
def full (l : List (List UInt8)) : List (List UInt8) := l.filter fun r => !r.isEmpty

theorem full_e (l : List (List UInt8)) : full ([] :: l) = full l := by simp [full]
theorem full_x {x : List UInt8} (h : x.isEmpty = false) (l : List (List UInt8)) : full (x :: l) = x :: full l := by simp [full, List.filter_cons, h]

theorem full_skip (q : UInt8 → Bool) : ∀ (x y : List UInt8), (∀ c ∈ x, q c = true) → full (brk q (x ++ y) []) = full (brk q y [])
  | [], y, _ => rfl
  | c :: x, y, h => by
    rw [List.cons_append, brk, if_pos (h c (by simp))]
    show full ([] :: _) = _
    rw [full, List.filter_cons]
    exact full_skip q x y (fun d hd => h d (by simp [hd]))

/-- What has been taken up of a run that is under way. -/
def cur (s : ByteArray) (pos : Nat) : Option Nat → List UInt8
  | none => []
  | some a => (s.extract a pos).data.toList

theorem drop_at (s : ByteArray) (pos : Nat) (h : pos < s.size) : s.data.toList.drop pos = (s[pos]'h) :: s.data.toList.drop (pos + 1) := by
  rw [List.drop_eq_getElem_cons (by simpa using h)]; rfl

theorem ext_list (s : ByteArray) (a b : Nat) : (s.extract a b).data.toList = (s.data.toList.drop a).take (b - a) := by
  rw [Lib.extract_data]

theorem ext_snoc (s : ByteArray) (a pos : Nat) (h : pos < s.size) (ha : a ≤ pos) : (s.extract a (pos + 1)).data.toList = (s.extract a pos).data.toList ++ [s[pos]'h] := by
  rw [ext_list, ext_list, show pos + 1 - a = (pos - a) + 1 by omega, List.take_add_one, List.getElem?_drop, show a + (pos - a) = pos by omega, List.getElem?_eq_getElem (by simpa using h)]
  rfl

theorem ext_ne (s : ByteArray) (a b : Nat) (h : a < b) (hb : b ≤ s.size) : ((s.extract a b).data.toList.isEmpty) = false := by
  rw [ext_list]
  cases e : ((s.data.toList.drop a).take (b - a)) with
  | nil =>
    have := congrArg List.length e
    rw [List.length_take, List.length_drop] at this
    have hs : s.data.toList.length = s.size := by simp
    rw [hs, List.length_nil] at this; omega
  | cons _ _ => rfl

theorem spans_runs (s : ByteArray) : ∀ (f pos : Nat) (st : Option Nat) (acc : List (Nat × Nat)), s.size ≤ pos + f → pos ≤ s.size → (∀ a, st = some a → a < pos) →
    (Lib.closeSpans s (Lib.spansFromP nqR s f pos st acc)).map (fun x => (s.extract x.1 x.2).data.toList) = acc.map (fun x => (s.extract x.1 x.2).data.toList) ++ full (brk nq (s.data.toList.drop pos) (cur s pos st)) := by
  have hend : ∀ (pos : Nat) (st : Option Nat) (acc : List (Nat × Nat)), s.size = pos → (∀ a, st = some a → a < pos) →
      (Lib.closeSpans s (acc, st)).map (fun x => (s.extract x.1 x.2).data.toList) = acc.map (fun x => (s.extract x.1 x.2).data.toList) ++ full (brk nq (s.data.toList.drop pos) (cur s pos st)) := by
    intro pos st acc hp hst
    rw [List.drop_of_length_le (by simp; omega), brk]
    cases st with
    | none => simp [Lib.closeSpans, cur, full]
    | some a =>
      have := ext_ne s a pos (hst a rfl) (by omega)
      subst hp
      simp only [Lib.closeSpans, List.map_append, List.map_cons, List.map_nil, cur]
      generalize (s.extract a s.size).data.toList = X at *
      simp [full, this]
  intro f
  induction f with
  | zero => intro pos st acc h1 h2 hst; rw [Lib.spansFromP]; exact hend pos st acc (by omega) hst
  | succ f ih =>
    intro pos st acc h1 h2 hst
    by_cases h : pos < s.size
    · unfold Lib.spansFromP; rw [if_pos h]
      by_cases ha : (s[pos]'h).toNat < 128
      · rw [decode_ascii s pos h ha]
        simp only [nqR, if_pos ha]
        rw [show UInt8.ofNat (s[pos]'h).toNat = s[pos]'h by simp]
        rw [drop_at s pos h, brk]
        by_cases hq : nq (s[pos]'h) = true
        · rw [if_pos hq, if_pos hq]
          cases st with
          | none =>
            simp only
            rw [ih (pos + 1) none acc (by omega) (by omega) (fun a e => by cases e)]
            rfl
          | some a =>
            have := ext_ne s a pos (hst a rfl) (by omega)
            simp only
            rw [ih (pos + 1) none _ (by omega) (by omega) (fun a e => by cases e)]
            simp only [cur]
            rw [full_x this, List.map_append, List.append_assoc]; rfl
        · rw [if_neg hq, if_neg hq]
          cases st with
          | none =>
            simp only
            rw [ih (pos + 1) (some pos) acc (by omega) (by omega) (fun a e => by injection e with e; omega)]
            have := ext_snoc s pos pos h (Nat.le_refl _)
            simp only [cur]
            rw [this]
            simp [ext_list]
          | some a =>
            simp only
            rw [ih (pos + 1) (some a) acc (by omega) (by omega) (fun b e => by injection e with e; have := hst a rfl; omega)]
            simp only [cur]
            rw [ext_snoc s a pos h (by have := hst a rfl; omega)]
      · have hd := decode_high s pos h (by omega)
        obtain ⟨hw, hb⟩ := high_bytes s pos h (by omega)
        generalize (Utf8.decode s pos).2 = n at *
        have hR : nqR (Utf8.decode s pos).1 = true := by rw [nqR, if_neg (by omega)]
        rw [if_pos hR]
        have hsk : s.data.toList.drop pos = (s.data.toList.drop pos).take n ++ s.data.toList.drop (pos + n) := by
          conv => lhs; rw [← List.take_append_drop n (s.data.toList.drop pos)]
          rw [List.drop_drop]
        have hall : ∀ c ∈ (s.data.toList.drop pos).take n, nq c = true := by
          intro c hc
          obtain ⟨j, hj, rfl⟩ := List.getElem_of_mem hc
          have hj' : j < n := by simp at hj; omega
          have hjs : pos + j < s.size := by simp at hj; omega
          have := hb j hj' hjs
          rw [List.getElem_take, List.getElem_drop]
          exact nq_high _ this
        obtain ⟨c, t, hct⟩ : ∃ c t, (s.data.toList.drop pos).take n = c :: t := by
          cases e : (s.data.toList.drop pos).take n with
          | nil => have := congrArg List.length e; simp at this; omega
          | cons c t => exact ⟨c, t, rfl⟩
        rw [hct] at hsk hall
        rw [hsk, List.cons_append, brk, if_pos (hall c (by simp))]
        cases st with
        | none =>
          simp only
          rw [ih (pos + n) none acc (by omega) (by omega) (fun a e => by cases e)]
          simp only [cur]
          rw [full_e, full_skip nq t _ (fun d hd => hall d (by simp [hd]))]
        | some a =>
          have := ext_ne s a pos (hst a rfl) (by omega)
          simp only
          rw [ih (pos + n) none _ (by omega) (by omega) (fun a e => by cases e)]
          simp only [cur]
          rw [full_x this, full_skip nq t _ (fun d hd => hall d (by simp [hd])), List.map_append, List.append_assoc]; rfl
    · rw [Lib.spansFromP_end nqR s _ pos st acc h]
      exact hend pos st acc (by omega) hst

/-- strings.FieldsFunc by what is no sign: the runs. -/
theorem fields_runs (s : ByteArray) : (Lib.goFieldsP nqR s).map (·.data.toList) = full (brk nq s.data.toList []) := by
  have h := spans_runs s s.size 0 none [] (by omega) (by omega) (fun a e => by cases e)
  simp only [List.map_nil, List.nil_append, List.drop_zero, cur] at h
  rw [← h]
  simp [Lib.goFieldsP, Lib.spansOfP]

/-- strings.Split by the edge: what stands between. -/
theorem split_brk (c : UInt8) : ∀ (k : Nat) (s : List UInt8), Lib.count s [c] ≤ k → Lib.splitK [c] 0 k s = brk (fun d => d == c) s []
  | k, s, h => by
    rcases Lib.index_spec s [c] with ⟨h1, h2⟩ | ⟨i, h1, h2, h3, h4⟩
    · have hno := Lib.indexByte_none (l := s) (c := c) (by rw [← Lib.index_one]; exact h1)
      have hb := brk_none (fun d => d == c) s [] (fun d hd => by
        rw [beq_eq_false_iff_ne]
        rintro rfl
        obtain ⟨j, hj⟩ := List.getElem?_of_mem hd
        exact hno j hj)
      rw [hb]
      cases k with
      | zero => rfl
      | succ k => rw [Lib.splitK, if_pos (by rw [h1]; rfl)]; rfl
    · have hc := Lib.count_hit (by simp) h1
      have hsome := Lib.indexByte_some (l := s) (c := c) (o := i) (by rw [← Lib.index_one]; exact h1)
      cases k with
      | zero => omega
      | succ k =>
        have hi : i < s.length := by
          obtain ⟨e, _⟩ := List.getElem?_eq_some_iff.1 hsome.1; exact e
        rw [Lib.splitK, if_neg (by rw [h1]; intro e; have := eq_of_beq e; omega), h1]
        simp only [Int.toNat_natCast, Nat.add_zero, List.length_cons, List.length_nil, Nat.zero_add]
        rw [split_brk c k _ (by simp at hc; omega)]
        have e : s = s.take i ++ c :: s.drop (i + 1) := by
          conv => lhs; rw [← List.take_append_drop i s, List.drop_eq_getElem_cons hi]
          obtain ⟨_, e⟩ := List.getElem?_eq_some_iff.1 hsome.1
          rw [e]
        conv => rhs; rw [e]
        rw [brk_at _ c (by simp), brk_none _ (s.take i) [] (fun d hd => by
          rw [beq_eq_false_iff_ne]
          rintro rfl
          obtain ⟨j, hj⟩ := List.getElem?_of_mem hd
          have hji : j < i := by
            obtain ⟨e, _⟩ := List.getElem?_eq_some_iff.1 hj; simp at e; omega
          rw [List.getElem?_take_of_lt hji] at hj
          exact hsome.2 j hji hj)]
        rfl
  termination_by k => k

end Go.Proofs.YtgmmbfnmojjbkaaGreatDoor

namespace Go.Proofs.YtgmmbfnmojjbkaaGreatDoor
open Go.RowKit Go.Shelf
set_option linter.unusedVariables false
set_option linter.unusedSimpArgs false

theorem strI9 : (Tryz.prog.info? (Tryz.lays221_ren.t 9)).map (fun i => (i.zero, i.size, i.bytes)) = some (some (.string ByteArray.empty), 1, 16) := by kernel_rfl

set_option maxHeartbeats 1000000 in
/-- strings.Split by the edge. -/
theorem split_any (s : ByteArray) (w : World) (hs : s.size ≤ 1000000) :
    Calls Tryz.prog 74 #[.string s, .string ⟨#[126]⟩] w fun e w' =>
      ∃ ps : List ByteArray, ps.map (·.data.toList) = brk tq s.data.toList [] ∧ e = .returned (.slice (some ⟨w.heap.size, 0, none⟩) ps.length ps.length) ∧ w' = w.alloc (.cells (ps.map Value.string).toArray 9) := by
  have hle := Lib.countB_le ⟨#[126]⟩ (by decide) s.size s (Nat.le_refl _)
  have hlen := Lib.splitB_all ⟨#[126]⟩ (by decide) 0 _ s rfl
  have hI : ∀ (x : ByteArray) (c : Array Value), x.size ≤ s.size → Calls Tryz.prog 100 #[.string x, .string ⟨#[126]⟩] (w.alloc (.cells c 9)) fun e w' => e = .returned (.int .i64 (Lib.indexB x ⟨#[126]⟩)) ∧ w' = w.alloc (.cells c 9) := fun x c _ =>
    (Tryz.strings_Index_one x 126 _).mono fun e w' ⟨h1, h2⟩ => ⟨by rw [h1]; show _ = Ending.returned (Value.int .i64 (Lib.index x.data.toList [126])); rw [Lib.index_one], h2⟩
  have hC : Calls Tryz.prog 99 #[.string s, .string ⟨#[126]⟩] w fun e w' => e = .returned (.int .i64 (Lib.countB s ⟨#[126]⟩)) ∧ w' = w :=
    (Tryz.strings_Count_one s 126 w).mono fun e w' ⟨h1, h2⟩ => ⟨by rw [h1]; show _ = Ending.returned (Value.int .i64 ((Lib.count s.data.toList [126] : Nat) : Int)); rw [Lib.count_one]; rfl, h2⟩
  have c := Any.strings_genSplit_core Tryz.lays221 strI9 s ⟨#[126]⟩ 0 (-1) (Lib.countB s ⟨#[126]⟩ + 1) w (by omega) (by decide) (by decide) hI hC (by decide) (by decide) (by rw [if_pos (by decide)]; omega)
  rw [Nat.add_sub_cancel, hlen] at c
  have e2 : Lib.cellsOf (Lib.splitB ⟨#[126]⟩ 0 (Lib.countB s ⟨#[126]⟩) s) (Lib.countB s ⟨#[126]⟩ + 1) = ((Lib.splitB ⟨#[126]⟩ 0 (Lib.countB s ⟨#[126]⟩) s).map Value.string).toArray := by rw [← hlen]; exact Lib.cellsOf_full _
  rw [e2, ← hlen] at c
  have hd := Lib.splitB_data ⟨#[126]⟩ 0 (Lib.countB s ⟨#[126]⟩) s
  have hk := split_brk 126 (Lib.countB s ⟨#[126]⟩) s.data.toList (Nat.le_refl _)
  rw [show (⟨#[126]⟩ : ByteArray).data.toList = [126] from rfl, hk] at hd
  generalize Lib.splitB ⟨#[126]⟩ 0 (Lib.countB s ⟨#[126]⟩) s = ps at *
  clear e2 hI hC hk hlen hle
  have c' : Calls Tryz.prog 86 #[.string s, .string ⟨#[126]⟩, .int .i64 0, .int .i64 (-1)] w fun e w' => e = .returned (.slice (some ⟨w.heap.size, 0, none⟩) ps.length ps.length) ∧ w' = w.alloc (.cells (ps.map Value.string).toArray 9) := c
  clear c
  go_enter Tryz.func74, Tryz.ntmps74
  go_wp2_with fail
  refine c'.mono ?_
  rintro e w' ⟨rfl, rfl⟩
  go_wp2_with fail
  go_ret
  exact ⟨ps, hd, rfl, rfl⟩

theorem nq_low : ∀ c : Fin 128, nq (UInt8.ofNat c.1) = !(decide ((65 ≤ c.1 ∧ c.1 ≤ 90) ∨ (97 ≤ c.1 ∧ c.1 ≤ 122) ∨ (48 ≤ c.1 ∧ c.1 ≤ 57) ∨ c.1 = 45 ∨ c.1 = 95)) := by decide +kernel
def nqD (r : Nat) : Bool := !(decide ((65 ≤ r ∧ r ≤ 90) ∨ (97 ≤ r ∧ r ≤ 122) ∨ (48 ≤ r ∧ r ≤ 57) ∨ r = 45 ∨ r = 95))
theorem nqR_is (r : Nat) : nqR r = nqD r := by
  unfold nqR nqD
  by_cases h : r < 128
  · rw [if_pos h]; exact nq_low ⟨r, h⟩
  · rw [if_neg h]; symm; simp; omega

set_option maxHeartbeats 1000000 in
theorem parts_any (r : Nat) (w : World) : Calls Tryz.prog 60 #[.int .i32 (r : Int)] w fun e w' => e = .returned (.bool (nqR r)) ∧ ∃ q, w' = w.drewN q := by
  rw [nqR_is]
  go_enter Tryz.func60, Tryz.ntmps60
  go_wp2_with fail
  all_goals go_ret
  all_goals exact ⟨ret_bool (by rw [Bool.eq_iff_iff]; simp only [nqD, Bool.not_eq_true', decide_eq_false_iff_not, decide_eq_true_eq, Bool.false_eq_true, false_iff, true_iff, iff_true, iff_false]; (try simp only [beq_eq_false_iff_ne, beq_iff_eq, ne_eq] at *); (try omega)), 0, rfl⟩

theorem insP_texts (s : ByteArray) (fs : List ByteArray) (h : fs.map (·.data.toList) = full (brk nq s.data.toList [])) : insP s.data.toList = ((fs.map (·.data.toList)).filter fun r => dOk r).map gL := by rw [h]; rfl

/-- strings.FieldsFunc by what is no sign. -/
theorem fields_any (s : ByteArray) (w : World) (hs : s.size ≤ 1000000) :
    Calls Tryz.prog 59 #[.string s, .func (.func 60) #[] #[]] w fun e w' =>
      ∃ (fs : List ByteArray) (A : Nat), fs.map (·.data.toList) = full (brk nq s.data.toList []) ∧ e = .returned (.slice (some ⟨A, 0, none⟩) fs.length fs.length) ∧ w.heap.size ≤ A ∧
        w'.ownsRow w.heap.size 9 1 (.slice (some ⟨A, 0, none⟩) fs.length fs.length) fs.length (fs.map Value.string) ∧ Below w.heap.size w w' := by
  have hp : PredAtRunes Tryz.prog 60 #[] nqR w := fun W x _ hb => parts_any x W
  refine (Tryz.strings_FieldsFunc_runes 60 #[] (fun _ _ => by kernel_rfl) nqR s w (by omega) hp).mono ?_
  rintro e w' ⟨A, h1, h2, h3, h4⟩
  exact ⟨_, A, fields_runs s, h1, h2, h3, h4⟩

end Go.Proofs.YtgmmbfnmojjbkaaGreatDoor

namespace Go.Proofs.YtgmmbfnmojjbkaaGreatDoor
open Go.RowKit
set_option linter.unusedVariables false
set_option linter.unusedSimpArgs false

/-- The term that stands as signs between two edges. -/
def inL (r : List UInt8) : Except Nat (Nd × Fo) := if dOk r = true then oneB (gL r) else .error 3

def RdEnd (w : World) (r : Except Nat (Nd × Fo)) (e : Ending) (w' : World) : Prop :=
  (∀ er, r = .error er → e = .returned (.tuple #[.agg #[.int .i64 0, .int .i64 0, .string ⟨#[]⟩, .slice none 0 0], .bool false]) ∧ Below w.heap.size w w') ∧
  (∀ a l, r = .ok (a, l) → ∃ v, e = .returned (.tuple #[v, .bool true]) ∧ Below w.heap.size w w' ∧ RepVG w' (fun b => w.heap.size ≤ b ∧ b < w'.heap.size) a l v)

theorem one_er {xs : List UInt8} {er : Nat} (h : oneB xs = .error er) : 1 ≤ er := by
  unfold oneB at h
  cases ht : tk 16 0 xs with
  | error e => rw [ht] at h; injection h with h; subst h; exact (tk_er ht).1
  | ok y =>
    obtain ⟨a, l, k, ys⟩ := y
    rw [ht] at h; dsimp only at h; split at h
    · injection h with h; omega
    · cases h

theorem one_may2 {xs : List UInt8} {a : Nd} {l : Fo} (h : oneB xs = .ok (a, l)) : xs = putT a l ∧ may a l = true ∧ norm l = l := by
  unfold oneB at h
  cases ht : tk 16 0 xs with
  | error e => rw [ht] at h; cases h
  | ok y =>
    obtain ⟨a', l', k, ys⟩ := y
    rw [ht] at h; dsimp only at h; split at h
    · cases h
    · next hl =>
      injection h with h; injection h with e1 e2; subst e1 e2
      have := tk_only ht
      have hy : ys = [] := List.eq_nil_of_length_eq_zero (by omega)
      rw [hy, List.append_nil] at this
      exact this

set_option maxRecDepth 100000 in
set_option maxHeartbeats 1000000 in
theorem mread_any (s : ByteArray) (w : World) (hm : s.size ≤ 100000) :
    Calls Tryz.prog 33 #[.string s] w fun e w' => RdEnd w (inL s.data.toList) e w' := by
  go_enter Tryz.func33, Tryz.ntmps33
  go_wp2_with fail
  refine (bdec_any s _ (by omega)).mono ?_
  rintro e w2 ⟨A, cap, rfl, hy, hl, hc, ho2⟩
  have hgl : (gL s.data.toList).length ≤ 100000 := by rw [g_len, size_list]; omega
  by_cases hd : dOk s.data.toList = true
  · have e1 : dL s = gL s.data.toList := by unfold dL; rw [if_pos hd]
    have e2 : dN s = 0 := by unfold dN; rw [if_pos hd]
    have HI : Hid (inL s.data.toList = oneB (gL s.data.toList)) := by show inL _ = _; unfold inL; rw [if_pos hd]
    rw [e1] at hl hy ⊢
    rw [e2]
    generalize gL s.data.toList = xs at *
    clear hd e1 e2
    go_wp2_with fail
    refine (codeOne_any _ A cap xs hy hl hc).mono ?_
    rintro e w3 ⟨h1, h2⟩
    have ho3 : Below w2.heap.size w2 w3 := by
      cases ht : oneB xs with
      | error er => exact (h1 er ht).2
      | ok y => obtain ⟨a, l⟩ := y; obtain ⟨v, _, hb, _⟩ := h2 a l ht; exact hb
    have hb3 := ho2.trans (ho3.mono ho2.size)
    obtain ⟨r0, r1, r2, r3, f0, f1, f2, f3⟩ := res4w hb3
    have hsz2 := ho2.size
    have hsz := hb3.size
    simp only [World.heap_size_alloc'] at hsz hsz2
    have hlt : w.heap.size < w3.heap.size := by omega
    have hbw : Below w.heap.size w w3 := ((Below.refl _ w).alloc (Nat.le_refl _) _).trans (hb3.mono (by simp))
    clear hb3 ho3
    cases ht : oneB xs with
    | error er =>
      obtain ⟨rfl, _⟩ := h1 er ht
      have her := one_er ht
      have hne : ((er : Int) == 0) = false := by simp; omega
      have HT : Hid (inL s.data.toList = .error er) := by show inL _ = _; rw [HI.out, ht]
      clear h1 h2 ht HI
      go_wp2_with fail
      refine bodyPost_ret (v := .tuple #[.agg #[.int .i64 0, .int .i64 0, .string ⟨#[]⟩, .slice none 0 0], .bool false]) (by simp [results, Tryz.results33, go_sem, r0, r1, r2, r3, hlt]) rfl ⟨?_, ?_⟩
      · intro er' he
        exact ⟨rfl, (by repeat (first | exact Below.refl _ _ | assumption | refine below_drewN ?_ _ | refine Below.drew ?_ | refine Below.alloc ?_ (by simp <;> omega) _ | refine Below.setCell ?_ (by simp <;> omega) _))⟩
      · intro a l he; rw [HT.out] at he; injection he
    | ok y =>
      obtain ⟨a, l⟩ := y
      obtain ⟨v, rfl, _, hf1, A3, cap3, b3, o3, rfl, hn3, hA3, hl3⟩ := h2 a l ht
      have HT : Hid (inL s.data.toList = .ok (a, l)) := by show inL _ = _; rw [HI.out, ht]
      have HA3 : Hid (flen l = 0 ∨ A3 = some ⟨b3, o3, none⟩) := hA3
      clear h1 h2 ht HI hA3
      go_wp2_with fail
      refine bodyPost_ret (v := .tuple #[.agg #[.int .i64 a.kind, .int .i64 a.n, .string a.s, .slice A3 (flen l) cap3], .bool true]) (by simp [results, Tryz.results33, go_sem, r0, r1, r2, r3, hlt]) rfl ⟨?_, ?_⟩
      · intro er he; rw [HT.out] at he; injection he
      · intro a' l' he
        rw [HT.out] at he; injection he with he; injection he with e1 e2; subst e1 e2
        refine ⟨_, rfl, (by repeat (first | exact Below.refl _ _ | assumption | refine below_drewN ?_ _ | refine Below.drew ?_ | refine Below.alloc ?_ (by simp <;> omega) _ | refine Below.setCell ?_ (by simp <;> omega) _)), hf1, A3, cap3, b3, o3, rfl, hn3, HA3.out, ?_⟩
        refine RepG.keep ?hS ?hC hl3
        case hS =>
          intro b hb
          have h1 := hb.1
          have h2 := hb.2
          exact ⟨by omega, by simp [World.setCell]; omega⟩
        case hC =>
          intro b o hb
          have h1 := hb.1
          have h2 := hb.2
          rw [World.cell?_alloc_past _ _ _ (by simp [World.setCell]; omega), cell_set4 _ _ _ _ _ _ _ _ (by omega)]
  · have e2 : dN s = 3 := by unfold dN; rw [if_neg hd]
    have HT : Hid (inL s.data.toList = .error 3) := by show inL _ = _; unfold inL; rw [if_neg hd]
    rw [e2]
    obtain ⟨r0, r1, r2, r3, f0, f1, f2, f3⟩ := res4w ho2
    have hsz := ho2.size
    simp only [World.heap_size_alloc'] at hsz
    have hlt : w.heap.size < w2.heap.size := by omega
    have hbw : Below w.heap.size w w2 := ((Below.refl _ w).alloc (Nat.le_refl _) _).trans (ho2.mono (by simp))
    clear hd hgl e2 hy hl hc ho2
    go_wp2_with fail
    refine bodyPost_ret (v := .tuple #[.agg #[.int .i64 0, .int .i64 0, .string ⟨#[]⟩, .slice none 0 0], .bool false]) (by simp [results, Tryz.results33, go_sem, r0, r1, r2, r3, hlt]) rfl ⟨?_, ?_⟩
    · intro er' he
      exact ⟨rfl, (by repeat (first | exact Below.refl _ _ | assumption | refine below_drewN ?_ _ | refine Below.drew ?_ | refine Below.alloc ?_ (by simp <;> omega) _ | refine Below.setCell ?_ (by simp <;> omega) _))⟩
    · intro a l he; rw [HT.out] at he; injection he

set_option maxRecDepth 100000 in
set_option maxHeartbeats 1000000 in
theorem rinner_any (s : ByteArray) (w : World) (hm : s.size ≤ 100000) :
    Calls Tryz.prog 34 #[.string s] w fun e w' => RdEnd w (inL s.data.toList) e w' := by
  go_enter Tryz.func34, Tryz.ntmps34
  go_wp2_with fail
  refine (rbdec_any s _ (by omega)).mono ?_
  rintro e w2 ⟨A, cap, rfl, hy, hl, hc, ho2⟩
  have hgl : (gL s.data.toList).length ≤ 100000 := by rw [g_len, size_list]; omega
  by_cases hd : dOk s.data.toList = true
  · have e1 : dL s = gL s.data.toList := by unfold dL; rw [if_pos hd]
    have e2 : dN s = 0 := by unfold dN; rw [if_pos hd]
    have HI : Hid (inL s.data.toList = oneB (gL s.data.toList)) := by show inL _ = _; unfold inL; rw [if_pos hd]
    rw [e1] at hl hy ⊢
    rw [e2]
    generalize gL s.data.toList = xs at *
    clear hd e1 e2
    go_wp2_with fail
    refine (refOne_any _ A cap xs hy hl hc hgl).mono ?_
    rintro e w3 ⟨h1, h2⟩
    have ho3 : Below w2.heap.size w2 w3 := by
      cases ht : oneB xs with
      | error er => exact (h1 er ht).2
      | ok y => obtain ⟨a, l⟩ := y; obtain ⟨v, _, hb, _⟩ := h2 a l ht; exact hb
    have hb3 := ho2.trans (ho3.mono ho2.size)
    obtain ⟨r0, r1, r2, r3, f0, f1, f2, f3⟩ := res4w hb3
    have hsz2 := ho2.size
    have hsz := hb3.size
    simp only [World.heap_size_alloc'] at hsz hsz2
    have hlt : w.heap.size < w3.heap.size := by omega
    have hbw : Below w.heap.size w w3 := ((Below.refl _ w).alloc (Nat.le_refl _) _).trans (hb3.mono (by simp))
    clear hb3 ho3
    cases ht : oneB xs with
    | error er =>
      obtain ⟨rfl, _⟩ := h1 er ht
      have her := one_er ht
      have hne : ((er : Int) == 0) = false := by simp; omega
      have HT : Hid (inL s.data.toList = .error er) := by show inL _ = _; rw [HI.out, ht]
      clear h1 h2 ht HI
      go_wp2_with fail
      refine bodyPost_ret (v := .tuple #[.agg #[.int .i64 0, .int .i64 0, .string ⟨#[]⟩, .slice none 0 0], .bool false]) (by simp [results, Tryz.results34, go_sem, r0, r1, r2, r3, hlt]) rfl ⟨?_, ?_⟩
      · intro er' he
        exact ⟨rfl, (by repeat (first | exact Below.refl _ _ | assumption | refine below_drewN ?_ _ | refine Below.drew ?_ | refine Below.alloc ?_ (by simp <;> omega) _ | refine Below.setCell ?_ (by simp <;> omega) _))⟩
      · intro a l he; rw [HT.out] at he; injection he
    | ok y =>
      obtain ⟨a, l⟩ := y
      obtain ⟨v, rfl, _, hf1, A3, cap3, b3, o3, rfl, hn3, hA3, hl3⟩ := h2 a l ht
      have HT : Hid (inL s.data.toList = .ok (a, l)) := by show inL _ = _; rw [HI.out, ht]
      have HA3 : Hid (flen l = 0 ∨ A3 = some ⟨b3, o3, none⟩) := hA3
      clear h1 h2 ht HI hA3
      go_wp2_with fail
      refine bodyPost_ret (v := .tuple #[.agg #[.int .i64 a.kind, .int .i64 a.n, .string a.s, .slice A3 (flen l) cap3], .bool true]) (by simp [results, Tryz.results34, go_sem, r0, r1, r2, r3, hlt]) rfl ⟨?_, ?_⟩
      · intro er he; rw [HT.out] at he; injection he
      · intro a' l' he
        rw [HT.out] at he; injection he with he; injection he with e1 e2; subst e1 e2
        refine ⟨_, rfl, (by repeat (first | exact Below.refl _ _ | assumption | refine below_drewN ?_ _ | refine Below.drew ?_ | refine Below.alloc ?_ (by simp <;> omega) _ | refine Below.setCell ?_ (by simp <;> omega) _)), hf1, A3, cap3, b3, o3, rfl, hn3, HA3.out, ?_⟩
        refine RepG.keep ?hS ?hC hl3
        case hS =>
          intro b hb
          have h1 := hb.1
          have h2 := hb.2
          exact ⟨by omega, by simp [World.setCell]; omega⟩
        case hC =>
          intro b o hb
          have h1 := hb.1
          have h2 := hb.2
          rw [World.cell?_alloc_past _ _ _ (by simp [World.setCell]; omega), cell_set4 _ _ _ _ _ _ _ _ (by omega)]
  · have e2 : dN s = 3 := by unfold dN; rw [if_neg hd]
    have HT : Hid (inL s.data.toList = .error 3) := by show inL _ = _; unfold inL; rw [if_neg hd]
    rw [e2]
    obtain ⟨r0, r1, r2, r3, f0, f1, f2, f3⟩ := res4w ho2
    have hsz := ho2.size
    simp only [World.heap_size_alloc'] at hsz
    have hlt : w.heap.size < w2.heap.size := by omega
    have hbw : Below w.heap.size w w2 := ((Below.refl _ w).alloc (Nat.le_refl _) _).trans (ho2.mono (by simp))
    clear hd hgl e2 hy hl hc ho2
    go_wp2_with fail
    refine bodyPost_ret (v := .tuple #[.agg #[.int .i64 0, .int .i64 0, .string ⟨#[]⟩, .slice none 0 0], .bool false]) (by simp [results, Tryz.results34, go_sem, r0, r1, r2, r3, hlt]) rfl ⟨?_, ?_⟩
    · intro er' he
      exact ⟨rfl, (by repeat (first | exact Below.refl _ _ | assumption | refine below_drewN ?_ _ | refine Below.drew ?_ | refine Below.alloc ?_ (by simp <;> omega) _ | refine Below.setCell ?_ (by simp <;> omega) _))⟩
    · intro a l he; rw [HT.out] at he; injection he

end Go.Proofs.YtgmmbfnmojjbkaaGreatDoor

namespace Go.Proofs.YtgmmbfnmojjbkaaGreatDoor
open Go.RowKit
set_option linter.unusedVariables false
set_option linter.unusedSimpArgs false

/-- A term's mark; of what is none nothing. -/
def markL (a : Nd) (l : Fo) : List UInt8 := if (putB a l).length = 0 then [] else 126 :: (b64L (putB a l) ++ [126])
def markS (a : Nd) (l : Fo) : ByteArray := ⟨(markL a l).toArray⟩

theorem putB_len (a : Nd) (l : Fo) : (putB a l).length ≤ 70000 := by
  unfold putB
  split
  · next h => exact (may_gd h).2.2
  · simp

theorem markS_is (a : Nd) (l : Fo) : markS a l = if (putB a l).length = 0 then ⟨#[]⟩ else ⟨#[126]⟩ ++ b64S (putB a l) ++ ⟨#[126]⟩ := by
  unfold markS markL
  split
  · rfl
  · exact ba_ext (by rw [ba_app, ba_app, ba_list, b64S, ba_list]; rfl)

set_option maxRecDepth 100000 in
set_option maxHeartbeats 1000000 in
theorem mtext_any (a : Nd) (l : Fo) (v : Value) (w : World) (hv : RepV w w.heap.size a l v) :
    Calls Tryz.prog 18 #[v] w fun e w' => e = .returned (.string (markS a l)) ∧ Below w.heap.size w w' := by
  obtain ⟨hf, A, cap, b, o, rfl, hn, hA, hr⟩ := hv
  have HA : Hid (flen l = 0 ∨ A = some ⟨b, o, none⟩) := hA
  clear hA
  have hlen := putB_len a l
  go_enter Tryz.func18, Tryz.ntmps18
  go_wp2_with fail
  have hba : Below w.heap.size w (w.alloc (.cells #[.int .i64 a.kind, .int .i64 a.n, .string a.s, .slice A (flen l) cap] 24)) := Below.alloc (Below.refl _ _) (Nat.le_refl _) _
  refine (codePut_any a l _ _ ⟨hf, A, cap, b, o, rfl, hn, HA.out, RepF.keep (by simp) (fun b' o' hb' => World.cell?_alloc_past _ _ _ (by omega)) hr⟩).mono ?_
  rintro e w1 ⟨u1, rfl, ho1, hk1⟩
  have hb1 : Below w.heap.size w w1 := hba.trans (hk1.mono (by simp))
  obtain ⟨A1, cap1, rfl, hy1, hl1, hc1⟩ := ho1.byAt
  have HM : Hid (markS a l = if (putB a l).length = 0 then ⟨#[]⟩ else ⟨#[126]⟩ ++ b64S (putB a l) ++ ⟨#[126]⟩) := markS_is a l
  clear ho1 hk1 hba hr HA
  generalize putB a l = xs at *
  by_cases h0 : xs.length = 0
  · have h0' : ((xs.length : Int) == 0) = true := by rw [h0]; rfl
    go_wp2_with fail
    go_ret
    exact ⟨ret_str (by rw [HM.out, if_pos h0]), hb1⟩
  · have h0' : ((xs.length : Int) == 0) = false := by rw [beq_eq_false_iff_ne]; omega
    have hz : (b64S xs).size ≤ 100000 := by rw [b64S_size]; omega
    go_wp2_with fail
    refine (benc_any A1 xs cap1 w1 (hy1.keep (Nat.le_refl _) (fun _ _ _ => rfl)) hl1 (by omega)).mono ?_
    rintro e w2 ⟨rfl, hb2⟩
    have HM' : Hid (markS a l = ⟨#[126]⟩ ++ b64S xs ++ ⟨#[126]⟩) := by show _ = _; rw [HM.out, if_neg h0]
    clear HM
    generalize b64S xs = st at *
    have z1 : ¬ 9223372036854775807 < 1 + st.size := by omega
    have z2 : ¬ 9223372036854775807 < 1 + st.size + 1 := by omega
    go_wp2_with fail
    go_ret
    exact ⟨ret_str HM'.out.symm, below_tr8 hb1 hb2⟩

set_option maxRecDepth 100000 in
set_option maxHeartbeats 1000000 in
theorem rtext_any (a : Nd) (l : Fo) (v : Value) (w : World) (hv : RepV w w.heap.size a l v) :
    Calls Tryz.prog 10 #[v] w fun e w' => e = .returned (.string (markS a l)) ∧ Below w.heap.size w w' := by
  obtain ⟨hf, A, cap, b, o, rfl, hn, hA, hr⟩ := hv
  have HA : Hid (flen l = 0 ∨ A = some ⟨b, o, none⟩) := hA
  clear hA
  have hlen := putB_len a l
  go_enter Tryz.func10, Tryz.ntmps10
  go_wp2_with fail
  have hba : Below w.heap.size w (w.alloc (.cells #[.int .i64 a.kind, .int .i64 a.n, .string a.s, .slice A (flen l) cap] 24)) := Below.alloc (Below.refl _ _) (Nat.le_refl _) _
  refine (refPut_any a l _ _ ⟨hf, A, cap, b, o, rfl, hn, HA.out, RepF.keep (by simp) (fun b' o' hb' => World.cell?_alloc_past _ _ _ (by omega)) hr⟩).mono ?_
  rintro e w1 ⟨u1, rfl, ho1, hk1⟩
  have hb1 : Below w.heap.size w w1 := hba.trans (hk1.mono (by simp))
  obtain ⟨A1, cap1, rfl, hy1, hl1, hc1⟩ := ho1.byAt
  have HM : Hid (markS a l = if (putB a l).length = 0 then ⟨#[]⟩ else ⟨#[126]⟩ ++ b64S (putB a l) ++ ⟨#[126]⟩) := markS_is a l
  clear ho1 hk1 hba hr HA
  generalize putB a l = xs at *
  by_cases h0 : xs.length = 0
  · have h0' : ((xs.length : Int) == 0) = true := by rw [h0]; rfl
    go_wp2_with fail
    go_ret
    exact ⟨ret_str (by rw [HM.out, if_pos h0]), hb1⟩
  · have h0' : ((xs.length : Int) == 0) = false := by rw [beq_eq_false_iff_ne]; omega
    have hz : (b64S xs).size ≤ 100000 := by rw [b64S_size]; omega
    go_wp2_with fail
    refine (rbenc_any A1 xs cap1 w1 (hy1.keep (Nat.le_refl _) (fun _ _ _ => rfl)) hl1 (by omega)).mono ?_
    rintro e w2 ⟨rfl, hb2⟩
    have HM' : Hid (markS a l = ⟨#[126]⟩ ++ b64S xs ++ ⟨#[126]⟩) := by show _ = _; rw [HM.out, if_neg h0]
    clear HM
    generalize b64S xs = st at *
    have z1 : ¬ 9223372036854775807 < 1 + st.size := by omega
    have z2 : ¬ 9223372036854775807 < 1 + st.size + 1 := by omega
    go_wp2_with fail
    go_ret
    exact ⟨ret_str HM'.out.symm, below_tr8 hb1 hb2⟩

end Go.Proofs.YtgmmbfnmojjbkaaGreatDoor

namespace Go.Proofs.YtgmmbfnmojjbkaaGreatDoor
open Go.RowKit
set_option linter.unusedVariables false
set_option linter.unusedSimpArgs false

/-- The term whose mark bytes are. -/
def rdL (x : List UInt8) : Except Nat (Nd × Fo) := if 2 ≤ x.length ∧ x.getD 0 0 = 126 ∧ x.getD (x.length - 1) 0 = 126 then inL (mid x) else .error 3

theorem RdEnd.below {w w' : World} {r : Except Nat (Nd × Fo)} {e : Ending} (h : RdEnd w r e w') : Below w.heap.size w w' := by
  cases r with
  | error er => exact (h.1 er rfl).2
  | ok y => obtain ⟨a, l⟩ := y; obtain ⟨v, _, hb, _⟩ := h.2 a l rfl; exact hb

theorem mid_take (x : List UInt8) : mid x = (x.drop 1).take (x.length - 1 - 1) := by
  unfold mid; rw [List.dropLast_eq_take, List.length_drop]

theorem rdL_is {x : List UInt8} (h1 : Lib.hasPrefix x [126] = true) (h2 : Lib.hasSuffix (Lib.trimPrefix x [126]) [126] = true) : rdL x = inL (Lib.trimSuffix (Lib.trimPrefix x [126]) [126]) := by
  have e1 : Lib.trimPrefix x [126] = x.drop 1 := by unfold Lib.trimPrefix; rw [if_pos h1]; rfl
  rw [e1] at h2 ⊢
  have e2 : Lib.trimSuffix (x.drop 1) [126] = mid x := by unfold Lib.trimSuffix; rw [if_pos h2, mid_take, List.length_drop]; rfl
  rw [e2, rdL, if_pos]
  have p1 : [126] <+: x := List.isPrefixOf_iff_prefix.1 h1
  have p2 : [126] <:+ x.drop 1 := List.isSuffixOf_iff_suffix.1 h2
  obtain ⟨t, rfl⟩ := p1
  obtain ⟨u, hu⟩ := p2
  simp at hu
  subst hu
  simp [List.getD]

theorem rdL_not {x : List UInt8} (h : ¬ (Lib.hasPrefix x [126] = true ∧ Lib.hasSuffix (Lib.trimPrefix x [126]) [126] = true)) : rdL x = .error 3 := by
  rw [rdL, if_neg]
  rintro ⟨h1, h2, h3⟩
  apply h
  cases x with
  | nil => simp at h1
  | cons c t =>
    simp at h2; subst h2
    have p1 : Lib.hasPrefix (126 :: t) [126] = true := by unfold Lib.hasPrefix; simp
    refine ⟨p1, ?_⟩
    have e1 : Lib.trimPrefix (126 :: t) [126] = t := by unfold Lib.trimPrefix; rw [if_pos p1]; rfl
    rw [e1]
    unfold Lib.hasSuffix
    refine List.isSuffixOf_iff_suffix.2 ⟨t.dropLast, ?_⟩
    have ht : t ≠ [] := by rintro rfl; simp at h1
    have hlast : t.getLast ht = 126 := by
      rw [List.getLast_eq_getElem]
      rw [List.length_cons, Nat.add_sub_cancel] at h3
      have hp : 0 < t.length := List.length_pos_iff.2 ht
      obtain ⟨n, hn⟩ : ∃ n, t.length = n + 1 := ⟨t.length - 1, by omega⟩
      rw [List.getD, hn, List.getElem?_cons_succ, List.getElem?_eq_getElem (by omega)] at h3
      simpa [hn] using h3
    rw [← hlast]; exact List.dropLast_concat_getLast ht

set_option maxRecDepth 100000 in
set_option maxHeartbeats 1000000 in
theorem mRead_any (s : ByteArray) (w : World) (hm : s.size ≤ 100000) :
    Calls Tryz.prog 13 #[.string s] w fun e w' => RdEnd w (rdL s.data.toList) e w' := by
  have hc1 := fun W => Tryz.strings_CutPrefix s ⟨#[126]⟩ W
  have hlP : (Lib.trimPrefix s.data.toList [126]).length ≤ s.size := by
    unfold Lib.trimPrefix; split
    · rw [List.length_drop, size_list]; omega
    · rw [size_list]; exact Nat.le_refl _
  have hc2 := fun (x : List UInt8) (hx : x.length ≤ 100000) W => Tryz.strings_CutSuffix ⟨x.toArray⟩ ⟨#[126]⟩ W (by rw [← size_list, ba_list]; omega)
  simp only [ba_list] at hc2
  rw [show (⟨#[126]⟩ : ByteArray).data.toList = [126] from rfl] at hc1
  have hcase : (∃ y, Lib.hasPrefix s.data.toList [126] = true ∧ Lib.hasSuffix (Lib.trimPrefix s.data.toList [126]) [126] = true ∧ Lib.trimSuffix (Lib.trimPrefix s.data.toList [126]) [126] = y ∧ y.length ≤ s.size ∧ rdL s.data.toList = inL y) ∨
      (¬ (Lib.hasPrefix s.data.toList [126] = true ∧ Lib.hasSuffix (Lib.trimPrefix s.data.toList [126]) [126] = true) ∧ rdL s.data.toList = .error 3) := by
    by_cases h : Lib.hasPrefix s.data.toList [126] = true ∧ Lib.hasSuffix (Lib.trimPrefix s.data.toList [126]) [126] = true
    · refine .inl ⟨_, h.1, h.2, rfl, ?_, rdL_is h.1 h.2⟩
      unfold Lib.trimSuffix
      rw [if_pos h.2, List.length_take]; omega
    · exact .inr ⟨h, rdL_not h⟩
  have hc2 := hc2 _ (Nat.le_trans hlP (by omega))
  clear hlP
  generalize Lib.trimPrefix s.data.toList [126] = x at *
  generalize Lib.trimSuffix x [126] = y at *
  generalize Lib.hasPrefix s.data.toList [126] = b1 at *
  generalize Lib.hasSuffix x [126] = b2 at *
  go_enter Tryz.func13, Tryz.ntmps13
  go_wp2_with fail
  refine (hc1 _).mono ?_
  rintro e w1 ⟨rfl, rfl⟩
  go_wp2_with fail
  refine (hc2 _).mono ?_
  rintro e w1 ⟨rfl, rfl⟩
  clear hc1 hc2
  rcases hcase with ⟨_, rfl, rfl, rfl, hl, hr⟩ | ⟨hn, hr⟩
  · have HR : Hid (rdL s.data.toList = inL y) := hr
    clear hr
    have hrd := fun W => mread_any ⟨y.toArray⟩ W (by rw [← size_list, ba_list]; omega)
    rw [ba_list] at hrd
    go_wp2_with fail
    · refine (hrd _).mono ?_
      intro e w3 h12
      have ho3 : Below (w.alloc (.cells #[.int .i64 0, .int .i64 0, .string ⟨#[]⟩, .slice none 0 0] 24)).heap.size (w.alloc (.cells #[.int .i64 0, .int .i64 0, .string ⟨#[]⟩, .slice none 0 0] 24)) w3 := h12.below
      obtain ⟨h1, h2⟩ := h12
      obtain ⟨r0, r1, r2, r3, f0, f1, f2, f3⟩ := res4w ho3
      have hsz := ho3.size
      simp only [World.heap_size_alloc'] at hsz
      have hlt : w.heap.size < w3.heap.size := by omega
      have hbw : Below w.heap.size w w3 := ((Below.refl _ w).alloc (Nat.le_refl _) _).trans (ho3.mono (by simp))
      clear ho3
      cases ht : inL y with
      | error er =>
        obtain ⟨rfl, _⟩ := h1 er ht
        have HT : Hid (rdL s.data.toList = .error er) := by show rdL _ = _; rw [HR.out, ht]
        clear h1 h2 ht HR
        go_wp2_with fail
        refine bodyPost_ret (v := .tuple #[.agg #[.int .i64 0, .int .i64 0, .string ⟨#[]⟩, .slice none 0 0], .bool false]) (by simp [results, Tryz.results13, go_sem, r0, r1, r2, r3, hlt]) rfl ⟨?_, ?_⟩
        · intro er' he
          exact ⟨rfl, (by repeat (first | exact Below.refl _ _ | assumption | refine below_drewN ?_ _ | refine Below.drew ?_ | refine Below.alloc ?_ (by simp <;> omega) _ | refine Below.setCell ?_ (by simp <;> omega) _))⟩
        · intro a l he; rw [HT.out] at he; injection he
      | ok z =>
        obtain ⟨a, l⟩ := z
        obtain ⟨v, rfl, _, hf1, A3, cap3, b3, o3, rfl, hn3, hA3, hl3⟩ := h2 a l ht
        have HT : Hid (rdL s.data.toList = .ok (a, l)) := by show rdL _ = _; rw [HR.out, ht]
        have HA3 : Hid (flen l = 0 ∨ A3 = some ⟨b3, o3, none⟩) := hA3
        clear h1 h2 ht HR hA3
        go_wp2_with fail
        refine bodyPost_ret (v := .tuple #[.agg #[.int .i64 a.kind, .int .i64 a.n, .string a.s, .slice A3 (flen l) cap3], .bool true]) (by simp [results, Tryz.results13, go_sem, r0, r1, r2, r3, hlt]) rfl ⟨?_, ?_⟩
        · intro er he; rw [HT.out] at he; injection he
        · intro a' l' he
          rw [HT.out] at he; injection he with he; injection he with e1 e2; subst e1 e2
          refine ⟨_, rfl, (by repeat (first | exact Below.refl _ _ | assumption | refine below_drewN ?_ _ | refine Below.drew ?_ | refine Below.alloc ?_ (by simp <;> omega) _ | refine Below.setCell ?_ (by simp <;> omega) _)), hf1, A3, cap3, b3, o3, rfl, hn3, HA3.out, ?_⟩
          refine RepG.keep ?hS ?hC hl3
          case hS =>
            intro b hb
            have h1 := hb.1
            have h2 := hb.2
            simp only [World.heap_size_alloc'] at h1
            exact ⟨by omega, by simp [World.setCell]; omega⟩
          case hC =>
            intro b o hb
            have h1 := hb.1
            have h2 := hb.2
            simp only [World.heap_size_alloc'] at h1
            rw [cell_set4 _ _ _ _ _ _ _ _ (by omega)]
  · have HR : Hid (rdL s.data.toList = .error 3) := hr
    clear hr
    have hbb : b1 = false ∨ (b1 = true ∧ b2 = false) := by
      cases b1
      · exact .inl rfl
      · cases b2
        · exact .inr ⟨rfl, rfl⟩
        · exact absurd ⟨rfl, rfl⟩ hn
    clear hn
    rcases hbb with rfl | ⟨rfl, rfl⟩
    · go_wp2_with fail
      refine bodyPost_ret (v := .tuple #[.agg #[.int .i64 0, .int .i64 0, .string ⟨#[]⟩, .slice none 0 0], .bool false]) (by simp [results, Tryz.results13, go_sem]) rfl ⟨?_, ?_⟩
      · intro er' he
        exact ⟨rfl, (by repeat (first | exact Below.refl _ _ | assumption | refine below_drewN ?_ _ | refine Below.drew ?_ | refine Below.alloc ?_ (by simp <;> omega) _ | refine Below.setCell ?_ (by simp <;> omega) _))⟩
      · intro a l he; rw [HR.out] at he; injection he
    · go_wp2_with fail
      refine bodyPost_ret (v := .tuple #[.agg #[.int .i64 0, .int .i64 0, .string ⟨#[]⟩, .slice none 0 0], .bool false]) (by simp [results, Tryz.results13, go_sem]) rfl ⟨?_, ?_⟩
      · intro er' he
        exact ⟨rfl, (by repeat (first | exact Below.refl _ _ | assumption | refine below_drewN ?_ _ | refine Below.drew ?_ | refine Below.alloc ?_ (by simp <;> omega) _ | refine Below.setCell ?_ (by simp <;> omega) _))⟩
      · intro a l he; rw [HR.out] at he; injection he

set_option maxRecDepth 100000 in
set_option maxHeartbeats 1000000 in
theorem rRead_any (s : ByteArray) (w : World) (hm : s.size ≤ 100000) :
    Calls Tryz.prog 14 #[.string s] w fun e w' => RdEnd w (rdL s.data.toList) e w' := by
  by_cases h2 : s.size < 2
  · have HR : Hid (rdL s.data.toList = .error 3) := by show rdL _ = _; rw [rdL, if_neg]; rw [size_list]; omega
    have h2' : (s.size : Int) < 2 := by omega
    go_enter Tryz.func14, Tryz.ntmps14
    skip
    · go_wp2_with fail
      refine bodyPost_ret (v := .tuple #[.agg #[.int .i64 0, .int .i64 0, .string ⟨#[]⟩, .slice none 0 0], .bool false]) (by simp [results, Tryz.results14, go_sem]) rfl ⟨?_, ?_⟩
      · intro er' he
        exact ⟨rfl, (by repeat (first | exact Below.refl _ _ | assumption | refine below_drewN ?_ _ | refine Below.drew ?_ | refine Below.alloc ?_ (by simp <;> omega) _ | refine Below.setCell ?_ (by simp <;> omega) _))⟩
      · intro a l he; rw [HR.out] at he; injection he
  have h2' : ¬ (s.size : Int) < 2 := by omega
  have hw : IntKind.i64.wrap ((s.size : Int) - 1) = ((s.size - 1 : Nat) : Int) := by rw [wrap_in _ (by omega) (by omega)]; omega
  have hns : s.size - 1 < s.size := by omega
  have h0s : 0 < s.size := by omega
  have g0 : s.data.toList.getD 0 0 = s[0]'h0s := by rw [List.getD_eq_getElem?_getD, List.getElem?_eq_getElem (by rw [size_list]; exact h0s)]; rfl
  have gn : s.data.toList.getD (s.data.toList.length - 1) 0 = s[s.size - 1]'hns := by rw [size_list, List.getD_eq_getElem?_getD, List.getElem?_eq_getElem (by rw [size_list]; exact hns)]; rfl
  have u8 : ∀ c : UInt8, (((c.toNat : Int) != 126) = true ∧ c ≠ 126) ∨ (((c.toNat : Int) != 126) = false ∧ c = 126) := fun c => by
    by_cases h : c = 126
    · subst h; exact .inr ⟨by decide, rfl⟩
    · refine .inl ⟨?_, h⟩
      rw [bne_iff_ne]
      intro e
      exact h (UInt8.toNat_inj.1 (by have : (126 : UInt8).toNat = 126 := rfl; omega))
  go_enter Tryz.func14, Tryz.ntmps14
  rcases u8 (s[0]'h0s) with ⟨q0, e0⟩ | ⟨q0, e0⟩
  · have HR : Hid (rdL s.data.toList = .error 3) := by show rdL _ = _; rw [rdL, if_neg]; rintro ⟨_, h, _⟩; exact e0 (g0.symm.trans h)
    clear g0 gn u8 e0
    skip
    · go_wp2_with fail
      refine bodyPost_ret (v := .tuple #[.agg #[.int .i64 0, .int .i64 0, .string ⟨#[]⟩, .slice none 0 0], .bool false]) (by simp [results, Tryz.results14, go_sem]) rfl ⟨?_, ?_⟩
      · intro er' he
        exact ⟨rfl, (by repeat (first | exact Below.refl _ _ | assumption | refine below_drewN ?_ _ | refine Below.drew ?_ | refine Below.alloc ?_ (by simp <;> omega) _ | refine Below.setCell ?_ (by simp <;> omega) _))⟩
      · intro a l he; rw [HR.out] at he; injection he
  rcases u8 (s[s.size - 1]'hns) with ⟨qn, en⟩ | ⟨qn, en⟩
  · have HR : Hid (rdL s.data.toList = .error 3) := by show rdL _ = _; rw [rdL, if_neg]; rintro ⟨_, _, h⟩; exact en (gn.symm.trans h)
    clear g0 gn u8 e0 en
    skip
    · go_wp2_with fail
      refine bodyPost_ret (v := .tuple #[.agg #[.int .i64 0, .int .i64 0, .string ⟨#[]⟩, .slice none 0 0], .bool false]) (by simp [results, Tryz.results14, go_sem]) rfl ⟨?_, ?_⟩
      · intro er' he
        exact ⟨rfl, (by repeat (first | exact Below.refl _ _ | assumption | refine below_drewN ?_ _ | refine Below.drew ?_ | refine Below.alloc ?_ (by simp <;> omega) _ | refine Below.setCell ?_ (by simp <;> omega) _))⟩
      · intro a l he; rw [HR.out] at he; injection he
  have HR : Hid (rdL s.data.toList = inL (mid s.data.toList)) := by show rdL _ = _; rw [rdL, if_pos ⟨by rw [size_list]; omega, g0.trans e0, gn.trans en⟩]
  have hmid : mid s.data.toList = (s.extract 1 (s.size - 1)).data.toList := by rw [mid_take, ext_list, size_list]
  rw [hmid] at HR
  have hle : (s.extract 1 (s.size - 1)).size ≤ 100000 := by rw [← size_list, ext_list, List.length_take]; omega
  clear g0 gn u8 e0 en hmid
  have hrd := fun W => rinner_any (s.extract 1 (s.size - 1)) W hle
  obtain ⟨y, hy⟩ : ∃ y, y = (s.extract 1 (s.size - 1)).data.toList := ⟨_, rfl⟩
  rw [← hy] at HR hrd
  clear hy
  go_wp2_with fail
  refine (hrd _).mono ?_
  intro e w3 h12
  skip
  · skip
    · have ho3 : Below (w.alloc (.cells #[.int .i64 0, .int .i64 0, .string ⟨#[]⟩, .slice none 0 0] 24)).heap.size (w.alloc (.cells #[.int .i64 0, .int .i64 0, .string ⟨#[]⟩, .slice none 0 0] 24)) w3 := h12.below
      obtain ⟨h1, h2⟩ := h12
      obtain ⟨r0, r1, r2, r3, f0, f1, f2, f3⟩ := res4w ho3
      have hsz := ho3.size
      simp only [World.heap_size_alloc'] at hsz
      have hlt : w.heap.size < w3.heap.size := by omega
      have hbw : Below w.heap.size w w3 := ((Below.refl _ w).alloc (Nat.le_refl _) _).trans (ho3.mono (by simp))
      clear ho3
      cases ht : inL y with
      | error er =>
        obtain ⟨rfl, _⟩ := h1 er ht
        have HT : Hid (rdL s.data.toList = .error er) := by show rdL _ = _; rw [HR.out, ht]
        clear h1 h2 ht HR
        go_wp2_with fail
        refine bodyPost_ret (v := .tuple #[.agg #[.int .i64 0, .int .i64 0, .string ⟨#[]⟩, .slice none 0 0], .bool false]) (by simp [results, Tryz.results14, go_sem, r0, r1, r2, r3, hlt]) rfl ⟨?_, ?_⟩
        · intro er' he
          exact ⟨rfl, (by repeat (first | exact Below.refl _ _ | assumption | refine below_drewN ?_ _ | refine Below.drew ?_ | refine Below.alloc ?_ (by simp <;> omega) _ | refine Below.setCell ?_ (by simp <;> omega) _))⟩
        · intro a l he; rw [HT.out] at he; injection he
      | ok z =>
        obtain ⟨a, l⟩ := z
        obtain ⟨v, rfl, _, hf1, A3, cap3, b3, o3, rfl, hn3, hA3, hl3⟩ := h2 a l ht
        have HT : Hid (rdL s.data.toList = .ok (a, l)) := by show rdL _ = _; rw [HR.out, ht]
        have HA3 : Hid (flen l = 0 ∨ A3 = some ⟨b3, o3, none⟩) := hA3
        clear h1 h2 ht HR hA3
        go_wp2_with fail
        refine bodyPost_ret (v := .tuple #[.agg #[.int .i64 a.kind, .int .i64 a.n, .string a.s, .slice A3 (flen l) cap3], .bool true]) (by simp [results, Tryz.results14, go_sem, r0, r1, r2, r3, hlt]) rfl ⟨?_, ?_⟩
        · intro er he; rw [HT.out] at he; injection he
        · intro a' l' he
          rw [HT.out] at he; injection he with he; injection he with e1 e2; subst e1 e2
          refine ⟨_, rfl, (by repeat (first | exact Below.refl _ _ | assumption | refine below_drewN ?_ _ | refine Below.drew ?_ | refine Below.alloc ?_ (by simp <;> omega) _ | refine Below.setCell ?_ (by simp <;> omega) _)), hf1, A3, cap3, b3, o3, rfl, hn3, HA3.out, ?_⟩
          refine RepG.keep ?hS ?hC hl3
          case hS =>
            intro b hb
            have h1 := hb.1
            have h2 := hb.2
            simp only [World.heap_size_alloc'] at h1
            exact ⟨by omega, by simp [World.setCell]; omega⟩
          case hC =>
            intro b o hb
            have h1 := hb.1
            have h2 := hb.2
            simp only [World.heap_size_alloc'] at h1
            rw [cell_set4 _ _ _ _ _ _ _ _ (by omega)]

def numR (r : Except Nat (Nd × Fo)) : Int × Bool := match r with | .ok (a, _) => if a.kind = 2 then (a.n, true) else (0, false) | .error _ => (0, false)

set_option maxRecDepth 100000 in
set_option maxHeartbeats 1000000 in
theorem mNumber_any (s : ByteArray) (w : World) (hm : s.size ≤ 100000) :
    Calls Tryz.prog 15 #[.string s] w fun e w' => e = .returned (.tuple #[.int .i64 (numR (rdL s.data.toList)).1, .bool (numR (rdL s.data.toList)).2]) ∧ Below w.heap.size w w' := by
  go_enter Tryz.func15, Tryz.ntmps15
  go_wp2_with fail
  refine (mRead_any s w hm).mono ?_
  intro e w2 h12
  have ho2 := h12.below
  have hsz2 := ho2.size
  obtain ⟨h1, h2⟩ := h12
  cases ht : rdL s.data.toList with
  | error er =>
    obtain ⟨rfl, _⟩ := h1 er ht
    have HK : Hid (numR (rdL s.data.toList) = (0, false)) := by show numR _ = _; rw [ht]; rfl
    clear h1 h2 ht
    go_wp2_with fail
    exact bodyPost_ret (v := .tuple #[.int .i64 0, .bool false]) (by simp [results, Tryz.results15, go_sem]) rfl ⟨by rw [HK.out], Below.alloc ho2 hsz2 _⟩
  | ok z =>
    obtain ⟨a, l⟩ := z
    obtain ⟨v, rfl, _, hf1, A3, cap3, b3, o3, rfl, hn3, hA3, hl3⟩ := h2 a l ht
    clear h1 h2 hA3 hl3
    by_cases hk : a.kind = 2
    · have HK : Hid (numR (rdL s.data.toList) = (a.n, true)) := by show numR _ = _; rw [ht]; exact if_pos hk
      have hk' : (a.kind != 2) = false := by rw [hk]; rfl
      clear hk ht
      go_wp2_with fail
      exact bodyPost_ret (v := .tuple #[.int .i64 a.n, .bool true]) (by simp [results, Tryz.results15, go_sem]) rfl ⟨by rw [HK.out], Below.alloc ho2 hsz2 _⟩
    · have HK : Hid (numR (rdL s.data.toList) = (0, false)) := by show numR _ = _; rw [ht]; exact if_neg hk
      have hk' : (a.kind != 2) = true := by rw [bne_iff_ne]; exact hk
      clear hk ht
      go_wp2_with fail
      exact bodyPost_ret (v := .tuple #[.int .i64 0, .bool false]) (by simp [results, Tryz.results15, go_sem]) rfl ⟨by rw [HK.out], Below.alloc ho2 hsz2 _⟩

set_option maxRecDepth 100000 in
set_option maxHeartbeats 1000000 in
theorem rNumber_any (s : ByteArray) (w : World) (hm : s.size ≤ 100000) :
    Calls Tryz.prog 16 #[.string s] w fun e w' => e = .returned (.tuple #[.int .i64 (numR (rdL s.data.toList)).1, .bool (numR (rdL s.data.toList)).2]) ∧ Below w.heap.size w w' := by
  go_enter Tryz.func16, Tryz.ntmps16
  go_wp2_with fail
  refine (rRead_any s w hm).mono ?_
  intro e w2 h12
  have ho2 := h12.below
  have hsz2 := ho2.size
  obtain ⟨h1, h2⟩ := h12
  cases ht : rdL s.data.toList with
  | error er =>
    obtain ⟨rfl, _⟩ := h1 er ht
    have HK : Hid (numR (rdL s.data.toList) = (0, false)) := by show numR _ = _; rw [ht]; rfl
    clear h1 h2 ht
    go_wp2_with fail
    exact bodyPost_ret (v := .tuple #[.int .i64 0, .bool false]) (by simp [results, Tryz.results16, go_sem]) rfl ⟨by rw [HK.out], Below.alloc ho2 hsz2 _⟩
  | ok z =>
    obtain ⟨a, l⟩ := z
    obtain ⟨v, rfl, _, hf1, A3, cap3, b3, o3, rfl, hn3, hA3, hl3⟩ := h2 a l ht
    clear h1 h2 hA3 hl3
    by_cases hk : a.kind = 2
    · have HK : Hid (numR (rdL s.data.toList) = (a.n, true)) := by show numR _ = _; rw [ht]; exact if_pos hk
      have hk' : (a.kind != 2) = false := by rw [hk]; rfl
      clear hk ht
      go_wp2_with fail
      exact bodyPost_ret (v := .tuple #[.int .i64 a.n, .bool true]) (by simp [results, Tryz.results16, go_sem]) rfl ⟨by rw [HK.out], Below.alloc ho2 hsz2 _⟩
    · have HK : Hid (numR (rdL s.data.toList) = (0, false)) := by show numR _ = _; rw [ht]; exact if_neg hk
      have hk' : (a.kind != 2) = true := by rw [bne_iff_ne]; exact hk
      clear hk ht
      go_wp2_with fail
      exact bodyPost_ret (v := .tuple #[.int .i64 0, .bool false]) (by simp [results, Tryz.results16, go_sem]) rfl ⟨by rw [HK.out], Below.alloc ho2 hsz2 _⟩

theorem nonce_rep (n : Int) (h1 : -9223372036854775808 ≤ n) (h2 : n ≤ 9223372036854775807) (w : World) : RepV w w.heap.size ⟨2, n, ⟨#[]⟩⟩ .nil (.agg #[.int .i64 2, .int .i64 n, .string ⟨#[]⟩, .slice none 0 0]) :=
  ⟨⟨by simp, by simp, h1, h2, show (⟨#[]⟩ : ByteArray).size ≤ maxLen by decide⟩, none, 0, 0, 0, rfl, ⟨Nat.zero_le _, Nat.zero_le _⟩, .inl rfl, trivial⟩

set_option maxHeartbeats 1000000 in
theorem mKey_any (n : Int) (w : World) (h1 : -9223372036854775808 ≤ n) (h2 : n ≤ 9223372036854775807) :
    Calls Tryz.prog 19 #[.int .i64 n] w fun e w' => e = .returned (.string (markS ⟨2, n, ⟨#[]⟩⟩ .nil)) ∧ Below w.heap.size w w' := by
  go_enter Tryz.func19, Tryz.ntmps19
  go_wp2_with fail
  refine (mtext_any ⟨2, n, ⟨#[]⟩⟩ .nil _ _ (nonce_rep n h1 h2 _)).mono ?_
  rintro e w1 ⟨rfl, hb⟩
  go_wp2_with fail
  go_ret
  exact ⟨rfl, hb⟩

set_option maxHeartbeats 1000000 in
theorem rKey_any (n : Int) (w : World) (h1 : -9223372036854775808 ≤ n) (h2 : n ≤ 9223372036854775807) :
    Calls Tryz.prog 12 #[.int .i64 n] w fun e w' => e = .returned (.string (markS ⟨2, n, ⟨#[]⟩⟩ .nil)) ∧ Below w.heap.size w w' := by
  go_enter Tryz.func12, Tryz.ntmps12
  go_wp2_with fail
  refine (refN_any n _).mono ?_
  rintro e w1 ⟨rfl, hb1⟩
  go_wp2_with fail
  refine (rtext_any ⟨2, n, ⟨#[]⟩⟩ .nil _ _ (nonce_rep n h1 h2 _)).mono ?_
  rintro e w2 ⟨rfl, hb⟩
  go_wp2_with fail
  go_ret
  exact ⟨rfl, below_tr8 hb1 hb⟩

end Go.Proofs.YtgmmbfnmojjbkaaGreatDoor
