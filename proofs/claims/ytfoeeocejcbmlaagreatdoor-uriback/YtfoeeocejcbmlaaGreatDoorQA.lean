import Derived.Test.YtfoeeocejcbmlaaGreatDoorE0
import Derived.Test.YtfoeeocejcbmlaaGreatDoorBK
namespace Go.Proofs.YtfoeeocejcbmlaaGreatDoor
open Go.RowKit
set_option linter.unusedVariables false
set_option linter.unusedSimpArgs false

/-- A field: its name, its value. -/
abbrev Fd := ByteArray × ByteArray
def fd0 : Fd := (⟨#[]⟩, ⟨#[]⟩)

/-- What stands ahead of the first c, and behind it. -/
def cutL (c : UInt8) : List UInt8 → Option (List UInt8 × List UInt8)
  | [] => none
  | d :: t => if (d == c) = true then some ([], t) else (cutL c t).map fun x => (d :: x.1, x.2)

theorem cutL_app (c : UInt8) : ∀ (x t : List UInt8), (∀ d ∈ x, (d == c) = false) → cutL c (x ++ c :: t) = some (x, t)
  | [], t, _ => by simp [cutL]
  | d :: x, t, h => by
    rw [List.cons_append, cutL, if_neg (by rw [h d (by simp)]; decide), cutL_app c x t (fun d hd => h d (by simp [hd]))]; rfl

theorem cutL_no (c : UInt8) : ∀ (x : List UInt8), (∀ d ∈ x, (d == c) = false) → cutL c x = none
  | [], _ => rfl
  | d :: x, h => by rw [cutL, if_neg (by rw [h d (by simp)]; decide), cutL_no c x (fun d hd => h d (by simp [hd]))]; rfl

theorem cutL_some (c : UInt8) : ∀ (s a b : List UInt8), cutL c s = some (a, b) → s = a ++ c :: b ∧ ∀ d ∈ a, (d == c) = false
  | [], a, b, h => by cases h
  | d :: s, a, b, h => by
    rw [cutL] at h
    split at h
    · next hd =>
      injection h with h; injection h with h1 h2; subst h1 h2
      exact ⟨by rw [eq_of_beq hd]; rfl, by simp⟩
    · next hd =>
      cases hc : cutL c s with
      | none => rw [hc] at h; cases h
      | some x =>
        obtain ⟨a', b'⟩ := x
        rw [hc] at h
        injection h with h; injection h with h1 h2; subst h1 h2
        obtain ⟨e, hn⟩ := cutL_some c s a' b' hc
        refine ⟨by rw [e]; rfl, fun x hx => ?_⟩
        rcases List.mem_cons.1 hx with rfl | hx
        · simpa using hd
        · exact hn x hx

theorem cutL_none (c : UInt8) : ∀ (s : List UInt8), cutL c s = none → ∀ d ∈ s, (d == c) = false
  | [], _ => by simp
  | d :: s, h => by
    rw [cutL] at h
    split at h
    · cases h
    · next hd =>
      intro x hx
      rcases List.mem_cons.1 hx with rfl | hx
      · simpa using hd
      · exact cutL_none c s (by cases hc : cutL c s with | none => rfl | some y => rw [hc] at h; cases h) x hx

theorem brk_cut (c : UInt8) (s : List UInt8) : brk (fun d => d == c) s [] = match cutL c s with | none => [s] | some (a, b) => a :: brk (fun d => d == c) b [] := by
  cases h : cutL c s with
  | none => rw [brk_none _ _ _ (cutL_none c s h)]; rfl
  | some x =>
    obtain ⟨a, b⟩ := x
    obtain ⟨e, hn⟩ := cutL_some c s a b h
    conv => lhs; rw [e]
    rw [brk_at _ c (by simp), brk_none _ _ _ hn]; rfl

/-- What Cut answers. -/
def cutX (c : UInt8) (s : ByteArray) : ByteArray := match cutL c s.data.toList with | some (a, _) => ⟨a.toArray⟩ | none => s
def cutY (c : UInt8) (s : ByteArray) : ByteArray := match cutL c s.data.toList with | some (_, b) => ⟨b.toArray⟩ | none => ⟨#[]⟩
def cutZ (c : UInt8) (s : ByteArray) : Bool := (cutL c s.data.toList).isSome

theorem cut_hit {c : UInt8} {s : ByteArray} {a b : List UInt8} (h : cutL c s.data.toList = some (a, b)) : cutX c s = ⟨a.toArray⟩ ∧ cutY c s = ⟨b.toArray⟩ ∧ cutZ c s = true := by
  simp [cutX, cutY, cutZ, h]
theorem cut_miss {c : UInt8} {s : ByteArray} (h : cutL c s.data.toList = none) : cutX c s = s ∧ cutY c s = ⟨#[]⟩ ∧ cutZ c s = false := by
  simp [cutX, cutY, cutZ, h]
theorem cut_size (c : UInt8) (s : ByteArray) : (cutX c s).size ≤ s.size ∧ (cutY c s).size ≤ s.size ∧ (cutZ c s = true → (cutY c s).size < s.size) := by
  cases h : cutL c s.data.toList with
  | none =>
    obtain ⟨e1, e2, e3⟩ := cut_miss h
    rw [e1, e2, e3]
    exact ⟨Nat.le_refl _, Nat.zero_le _, fun h => by cases h⟩
  | some x =>
    obtain ⟨a, b⟩ := x
    obtain ⟨e1, e2, e3⟩ := cut_hit h
    obtain ⟨e, _⟩ := cutL_some c _ a b h
    have hl := congrArg List.length e
    rw [size_list, List.length_append, List.length_cons] at hl
    rw [e1, e2]
    have s1 : (⟨a.toArray⟩ : ByteArray).size = a.length := by rw [← size_list]
    have s2 : (⟨b.toArray⟩ : ByteArray).size = b.length := by rw [← size_list]
    rw [s1, s2]
    exact ⟨by omega, by omega, fun _ => by omega⟩

/-- The field that a part is. -/
def fdO (p : List UInt8) : Option Fd :=
  match cutL 61 p with
  | none => none
  | some (a, b) => if decN true ⟨a.toArray⟩ = 0 ∧ decN true ⟨b.toArray⟩ = 0 ∧ (decX true ⟨a.toArray⟩).size ≠ 0 then some (decX true ⟨a.toArray⟩, decX true ⟨b.toArray⟩) else none

/-- Is a name among some fields, and the value of its first one. -/
def hasF (l : List Fd) (n : ByteArray) : Bool := l.any fun g => decide (g.1 = n)
def getF : List Fd → ByteArray → ByteArray
  | [], _ => ⟨#[]⟩
  | g :: l, n => if g.1 = n then g.2 else getF l n

/-- The fields of parts, or why there are none. -/
def foldF : List (List UInt8) → List Fd → Int × List Fd
  | [], acc => (0, acc)
  | p :: ps, acc =>
    match fdO p with
    | none => (3, [])
    | some f => if hasF acc f.1 = true then (6, []) else foldF ps (acc ++ [f])

def parF (s : ByteArray) : Int × List Fd :=
  if s.size = 0 then (0, []) else if 24 < (brk (fun d => d == 38) s.data.toList []).length then (7, []) else foldF (brk (fun d => d == 38) s.data.toList []) []

/-- Fields as a text. -/
def prF (f : Fd) : List UInt8 := encL true f.1.data.toList ++ 61 :: encL true f.2.data.toList
def joinL : List (List UInt8) → List UInt8
  | [] => []
  | p :: ps => p ++ ps.flatMap fun q => 38 :: q
def prL (l : List Fd) : List UInt8 := joinL (l.map prF)
def prS (l : List Fd) : ByteArray := ⟨(prL l).toArray⟩

theorem joinL_snoc (ps : List (List UInt8)) (p : List UInt8) : joinL (ps ++ [p]) = if ps = [] then p else joinL ps ++ 38 :: p := by
  cases ps with
  | nil => simp [joinL]
  | cons q ps => simp [joinL]
theorem prL_snoc (l : List Fd) (f : Fd) : prL (l ++ [f]) = if l = [] then prF f else prL l ++ 38 :: prF f := by
  unfold prL
  rw [List.map_append, List.map_cons, List.map_nil, joinL_snoc]
  simp

theorem brk_join : ∀ (ps : List (List UInt8)) (p : List UInt8), (∀ q ∈ p :: ps, ∀ d ∈ q, (d == (38 : UInt8)) = false) → brk (fun d => d == 38) (joinL (p :: ps)) [] = p :: ps
  | [], p, h => by
    have : joinL [p] = p := by simp [joinL]
    rw [this, brk_none _ _ _ (h p (by simp))]; rfl
  | q :: ps, p, h => by
    have e : joinL (p :: q :: ps) = p ++ 38 :: joinL (q :: ps) := by simp [joinL]
    rw [e, brk_at _ 38 (by decide), brk_none _ _ _ (h p (by simp)), brk_join ps q (fun x hx => h x (by simp [List.mem_cons.1 hx]))]; rfl

theorem join_brk : ∀ (s acc : List UInt8), joinL (brk (fun d => d == 38) s acc) = acc ++ s
  | [], acc => by simp [brk, joinL]
  | d :: s, acc => by
    rw [brk]
    split
    · next hd =>
      have ih := join_brk s []
      have hne := brk_ne (fun d => d == (38 : UInt8)) s []
      cases hb : brk (fun d => d == (38 : UInt8)) s [] with
      | nil => exact absurd hb hne
      | cons q ps =>
        rw [hb] at ih
        rw [show joinL (acc :: q :: ps) = acc ++ 38 :: joinL (q :: ps) by simp [joinL], ih, eq_of_beq hd]; rfl
    · rw [join_brk s]; simp

theorem wr_free : ∀ c : Fin 256, ∀ d ∈ wrL true (UInt8.ofNat c.1), (d == (38 : UInt8)) = false ∧ (d == (61 : UInt8)) = false := by decide +kernel
theorem enc_free (l : List UInt8) : ∀ d ∈ encL true l, (d == (38 : UInt8)) = false ∧ (d == (61 : UInt8)) = false := by
  intro d hd
  obtain ⟨c, _, hc⟩ := List.mem_flatMap.1 hd
  have := wr_free ⟨c.toNat, c.toNat_lt⟩ d (by simpa using hc)
  exact this

theorem prF_free (f : Fd) : ∀ d ∈ prF f, (d == (38 : UInt8)) = false := by
  intro d hd
  rcases List.mem_append.1 hd with h | h
  · exact (enc_free _ d h).1
  · rcases List.mem_cons.1 h with rfl | h
    · decide
    · exact (enc_free _ d h).1

theorem ba_back (s : ByteArray) : (⟨s.data.toList.toArray⟩ : ByteArray) = s := ba_ext rfl

/-- What is printed of a field is that field. -/
theorem fd_pr (f : Fd) (h : f.1.size ≠ 0) : fdO (prF f) = some f := by
  have hc : cutL 61 (prF f) = some (encL true f.1.data.toList, encL true f.2.data.toList) := cutL_app 61 _ _ (fun d hd => (enc_free _ d hd).2)
  have e1 : (⟨(encL true f.1.data.toList).toArray⟩ : ByteArray) = encS true f.1 := rfl
  have e2 : (⟨(encL true f.2.data.toList).toArray⟩ : ByteArray) = encS true f.2 := rfl
  rw [fdO, hc]
  dsimp only
  rw [e1, e2, decX_enc, decN_enc, decX_enc, decN_enc, if_pos ⟨rfl, rfl, h⟩]

/-- What is a field is printed of it. -/
theorem pr_fd {p : List UInt8} {f : Fd} (h : fdO p = some f) : prF f = p ∧ f.1.size ≠ 0 := by
  unfold fdO at h
  cases hc : cutL 61 p with
  | none => rw [hc] at h; cases h
  | some x =>
    obtain ⟨a, b⟩ := x
    rw [hc] at h; dsimp only at h
    split at h
    · next hd =>
      obtain ⟨h1, h2, h3⟩ := hd
      injection h with h; subst h
      obtain ⟨e, _⟩ := cutL_some 61 _ a b hc
      have ea : encL true (decX true ⟨a.toArray⟩).data.toList = a := by
        rcases dec_case true ⟨a.toArray⟩ with ⟨_, g⟩ | ⟨g, _⟩
        · exact congrArg (·.data.toList) g
        · rw [h1] at g; cases g
      have eb : encL true (decX true ⟨b.toArray⟩).data.toList = b := by
        rcases dec_case true ⟨b.toArray⟩ with ⟨_, g⟩ | ⟨g, _⟩
        · exact congrArg (·.data.toList) g
        · rw [h2] at g; cases g
      refine ⟨?_, h3⟩
      unfold prF
      rw [ea, eb, ← e]
    · cases h

/-- No name is empty, none is there twice. -/
def Unl (l : List Fd) : Prop := ∀ i, i < l.length → (l.getD i fd0).1.size ≠ 0 ∧ hasF (l.take i) (l.getD i fd0).1 = false

theorem Unl.nil : Unl [] := fun i h => by simp at h
theorem Unl.snoc {l : List Fd} {f : Fd} (h : Unl l) (h1 : f.1.size ≠ 0) (h2 : hasF l f.1 = false) : Unl (l ++ [f]) := by
  intro i hi
  rw [List.length_append, List.length_singleton] at hi
  rcases Nat.lt_or_ge i l.length with hl | hl
  · have e : (l ++ [f]).getD i fd0 = l.getD i fd0 := by simp [List.getD, List.getElem?_append_left hl]
    rw [e, List.take_append_of_le_length (by omega)]; exact h i hl
  · obtain rfl : i = l.length := by omega
    have e : (l ++ [f]).getD l.length fd0 = f := by simp [List.getD]
    rw [e, List.take_left' rfl]; exact ⟨h1, h2⟩

theorem Unl.front {l : List Fd} {f : Fd} (h : Unl (l ++ [f])) : Unl l ∧ f.1.size ≠ 0 ∧ hasF l f.1 = false := by
  refine ⟨fun i hi => ?_, ?_⟩
  · have := h i (by rw [List.length_append]; omega)
    have e : (l ++ [f]).getD i fd0 = l.getD i fd0 := by simp [List.getD, List.getElem?_append_left hi]
    rwa [e, List.take_append_of_le_length (by omega)] at this
  · have := h l.length (by simp)
    have e : (l ++ [f]).getD l.length fd0 = f := by simp [List.getD]
    rwa [e, List.take_left' rfl] at this

theorem foldF_app : ∀ (l acc : List Fd) (qs : List (List UInt8)), Unl (acc ++ l) → foldF (l.map prF ++ qs) acc = foldF qs (acc ++ l)
  | [], acc, qs, _ => by simp
  | f :: l, acc, qs, h => by
    have e : acc ++ f :: l = (acc ++ [f]) ++ l := by simp
    have hu : Unl (acc ++ [f]) := by
      intro i hi
      have := h i (by rw [e, List.length_append]; omega)
      rw [e] at this
      have e2 : ((acc ++ [f]) ++ l).getD i fd0 = (acc ++ [f]).getD i fd0 := by simp only [List.getD]; rw [List.getElem?_append_left hi]
      rwa [e2, List.take_append_of_le_length (by omega)] at this
    obtain ⟨_, h1, h2⟩ := hu.front
    rw [List.map_cons, List.cons_append, foldF, fd_pr f h1]
    dsimp only
    rw [if_neg (by rw [h2]; decide), foldF_app l (acc ++ [f]) qs (by rw [← e]; exact h), e]

theorem prL_ne {l : List Fd} (h : l ≠ []) : prL l ≠ [] := by
  cases l with
  | nil => exact absurd rfl h
  | cons f l => simp [prL, joinL, prF]

theorem brk_prL {l : List Fd} (h : l ≠ []) : brk (fun d => d == 38) (prL l) [] = l.map prF := by
  cases l with
  | nil => exact absurd rfl h
  | cons f l =>
    unfold prL
    rw [List.map_cons]
    exact brk_join _ _ (fun q hq d hd => by
      rw [← List.map_cons] at hq
      obtain ⟨g, _, rfl⟩ := List.mem_map.1 hq
      exact prF_free g d hd)

theorem par_pr {l : List Fd} (h : Unl l) (hl : l.length ≤ 24) : parF (prS l) = (0, l) := by
  cases hn : l with
  | nil => rfl
  | cons f t =>
    have hne : l ≠ [] := by rw [hn]; simp
    rw [← hn]
    have hs : (prS l).size ≠ 0 := by
      rw [← size_list]; intro h0
      exact prL_ne hne (List.eq_nil_of_length_eq_zero h0)
    have hb : brk (fun d => d == 38) (prS l).data.toList [] = l.map prF := brk_prL hne
    unfold parF
    rw [if_neg hs, hb, List.length_map, if_neg (by omega)]
    have := foldF_app l [] [] (by simpa using h)
    simpa [foldF] using this

theorem hasF_mem {l : List Fd} {f : Fd} (h : f ∈ l) : hasF l f.1 = true := by
  unfold hasF; rw [List.any_eq_true]; exact ⟨f, h, by simp⟩

theorem par_twice {l : List Fd} (h : Unl l) (hn : l ≠ []) (hl : l.length ≤ 12) : parF (prS (l ++ l)) = (6, []) := by
  have hne : l ++ l ≠ [] := by simp [hn]
  have hs : (prS (l ++ l)).size ≠ 0 := by
    rw [← size_list]; intro h0
    exact prL_ne hne (List.eq_nil_of_length_eq_zero h0)
  have hb : brk (fun d => d == 38) (prS (l ++ l)).data.toList [] = (l ++ l).map prF := brk_prL hne
  unfold parF
  rw [if_neg hs, hb, List.length_map, List.length_append, if_neg (by omega), List.map_append, foldF_app l [] _ (by simpa using h), List.nil_append]
  cases hc : l with
  | nil => exact absurd hc hn
  | cons f t =>
    have hf : f ∈ l := by rw [hc]; simp
    have h1 : f.1.size ≠ 0 := by
      have := (h 0 (by rw [hc]; simp)).1
      rw [hc] at this; exact this
    rw [List.map_cons, foldF, fd_pr f h1]
    dsimp only
    rw [if_pos (by rw [← hc]; exact hasF_mem hf)]

theorem foldF_ok : ∀ (ps : List (List UInt8)) (acc l : List Fd), Unl acc → foldF ps acc = (0, l) → Unl l ∧ l.map prF = acc.map prF ++ ps
  | [], acc, l, h, e => by
    simp only [foldF, Prod.mk.injEq, true_and] at e
    subst e; exact ⟨h, by simp⟩
  | p :: ps, acc, l, h, e => by
    rw [foldF] at e
    cases hf : fdO p with
    | none => rw [hf] at e; cases e
    | some f =>
      rw [hf] at e; dsimp only at e
      split at e
      · cases e
      · next hh =>
        obtain ⟨h1, h2⟩ := pr_fd hf
        obtain ⟨g1, g2⟩ := foldF_ok ps (acc ++ [f]) l (h.snoc h2 (by simpa using hh)) e
        refine ⟨g1, ?_⟩
        rw [g2, List.map_append, List.append_assoc, List.map_cons, List.map_nil, h1]; rfl

theorem foldF_no : ∀ (ps : List (List UInt8)) (acc : List Fd), (foldF ps acc).1 ≠ 0 → (foldF ps acc).2 = []
  | [], acc, h => by simp [foldF] at h
  | p :: ps, acc, h => by
    rw [foldF] at h ⊢
    cases hf : fdO p with
    | none => rfl
    | some f =>
      rw [hf] at h; dsimp only at h ⊢
      split
      · rfl
      · next hh => rw [if_neg hh] at h; exact foldF_no ps _ h

theorem par_no (s : ByteArray) (h : (parF s).1 ≠ 0) : (parF s).2 = [] := by
  unfold parF at h ⊢
  split
  · rfl
  · next h0 =>
    rw [if_neg h0] at h
    split
    · rfl
    · next h1 => rw [if_neg h1] at h; exact foldF_no _ _ h

/-- What is parsed is printed just so again, and its names are unlike. -/
theorem par_ok (s : ByteArray) (h : (parF s).1 = 0) : Unl (parF s).2 ∧ prS (parF s).2 = s := by
  unfold parF at h ⊢
  split
  · next h0 => exact ⟨Unl.nil, by apply ba_ext; have : s.data.toList = [] := List.eq_nil_of_length_eq_zero (by rw [size_list]; exact h0); rw [this]; rfl⟩
  · next h0 =>
    rw [if_neg h0] at h
    split
    · next h1 => rw [if_pos h1] at h; cases h
    · next h1 =>
      rw [if_neg h1] at h
      obtain ⟨g1, g2⟩ := foldF_ok _ [] (foldF (brk (fun d => d == 38) s.data.toList []) []).2 Unl.nil (by rw [← h])
      refine ⟨g1, ba_ext ?_⟩
      rw [prS, ba_list, prL, g2]
      exact join_brk s.data.toList []

theorem foldF_er : ∀ (ps : List (List UInt8)) (acc : List Fd), (foldF ps acc).1 = 0 ∨ (foldF ps acc).1 = 3 ∨ (foldF ps acc).1 = 6
  | [], acc => .inl rfl
  | p :: ps, acc => by
    rw [foldF]
    cases hf : fdO p with
    | none => exact .inr (.inl rfl)
    | some f =>
      dsimp only
      split
      · exact .inr (.inr rfl)
      · exact foldF_er ps _
theorem par_er (s : ByteArray) : (parF s).1 = 0 ∨ (parF s).1 = 3 ∨ (parF s).1 = 6 ∨ (parF s).1 = 7 := by
  unfold parF
  split
  · exact .inl rfl
  · split
    · exact .inr (.inr (.inr rfl))
    · rcases foldF_er (brk (fun d => d == 38) s.data.toList []) [] with h | h | h
      · exact .inl h
      · exact .inr (.inl h)
      · exact .inr (.inr (.inl h))

theorem foldF_len : ∀ (ps : List (List UInt8)) (acc : List Fd), (foldF ps acc).2.length ≤ acc.length + ps.length
  | [], acc => by simp [foldF]
  | p :: ps, acc => by
    rw [foldF]
    cases hf : fdO p with
    | none => simp
    | some f =>
      dsimp only
      split
      · simp
      · have := foldF_len ps (acc ++ [f]); simp at this ⊢; omega
theorem par_len (s : ByteArray) : (parF s).2.length ≤ 24 := by
  unfold parF
  split
  · simp
  · split
    · simp
    · next h => have := foldF_len (brk (fun d => d == 38) s.data.toList []) []; simp at this h ⊢; omega

/-- How long what is written may be. -/
theorem wrL_len1 (l : List UInt8) : l.length ≤ (encL true l).length := by
  induction l with
  | nil => simp
  | cons c l ih => rw [encL_cons, List.length_append, List.length_cons]; have := wr_pos true c; omega
theorem prF_len (f : Fd) : (prF f).length ≤ 3 * (f.1.size + f.2.size) + 1 ∧ f.1.size + f.2.size + 1 ≤ (prF f).length := by
  have h1 := encL_len true f.1.data.toList
  have h2 := encL_len true f.2.data.toList
  have h3 := wrL_len1 f.1.data.toList
  have h4 := wrL_len1 f.2.data.toList
  rw [size_list] at h1 h2 h3 h4
  unfold prF
  rw [List.length_append, List.length_cons]
  omega
/-- The bytes of some fields. -/
def sumF (l : List Fd) : Nat := (l.map fun f => f.1.size + f.2.size).sum
theorem sumF_cons (f : Fd) (l : List Fd) : sumF (f :: l) = f.1.size + f.2.size + sumF l := by simp [sumF]
theorem sumF_app (a b : List Fd) : sumF (a ++ b) = sumF a + sumF b := by simp [sumF]
theorem sumF_mem {l : List Fd} {f : Fd} (h : f ∈ l) : f.1.size + f.2.size ≤ sumF l := by
  induction l with
  | nil => cases h
  | cons g l ih =>
    rw [sumF_cons]
    rcases List.mem_cons.1 h with rfl | h
    · omega
    · have := ih h; omega
theorem prL_len : ∀ l : List Fd, (prL l).length ≤ 3 * sumF l + 2 * l.length ∧ sumF l + l.length ≤ (prL l).length + 1
  | [] => by simp [prL, joinL, sumF]
  | f :: l => by
    have aux : ∀ l : List Fd, ((l.map prF).flatMap fun q => 38 :: q).length ≤ 3 * sumF l + 2 * l.length ∧ sumF l + l.length ≤ ((l.map prF).flatMap fun q => 38 :: q).length := by
      intro l
      induction l with
      | nil => simp [sumF]
      | cons g l ih =>
        have := prF_len g
        rw [List.map_cons, List.flatMap_cons, List.length_append, List.length_cons, sumF_cons, List.length_cons]
        omega
    have h1 := aux l
    have h2 := prF_len f
    unfold prL
    rw [List.map_cons, joinL, List.length_append, sumF_cons, List.length_cons]
    omega
theorem prS_size (l : List Fd) : (prS l).size = (prL l).length := by rw [← size_list]; rfl
theorem sum_par (s : ByteArray) : sumF (parF s).2 ≤ s.size := by
  by_cases h : (parF s).1 = 0
  · have h1 := (par_ok s h).2
    have h2 := (prL_len (parF s).2).2
    have h3 := prS_size (parF s).2
    rw [h1] at h3
    cases hl : (parF s).2 with
    | nil => simp [sumF]
    | cons f t =>
      rw [hl] at h2 h3
      rw [List.length_cons] at h2
      omega
  · rw [par_no s h]; simp [sumF]

end Go.Proofs.YtfoeeocejcbmlaaGreatDoor
