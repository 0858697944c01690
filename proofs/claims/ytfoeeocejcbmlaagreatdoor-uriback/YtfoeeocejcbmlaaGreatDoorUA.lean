import Derived.Test.YtfoeeocejcbmlaaGreatDoorQA
import Derived.Lib.SlTrimSet
namespace Go.Proofs.YtfoeeocejcbmlaaGreatDoor
open Go.RowKit
set_option linter.unusedVariables false
set_option linter.unusedSimpArgs false

/-! Addresses, pure: what may be a Host, a Path; what is read of a text; what is written. -/

def hostB (c : UInt8) : Bool := decide ((97 ≤ c.toNat ∧ c.toNat ≤ 122) ∨ (48 ≤ c.toNat ∧ c.toNat ≤ 57) ∨ c.toNat = 45 ∨ c.toNat = 46)
def hostL : List UInt8 := [97, 98, 99, 100, 101, 102, 103, 104, 105, 106, 107, 108, 109, 110, 111, 112, 113, 114, 115, 116, 117, 118, 119, 120, 121, 122, 48, 49, 50, 51, 52, 53, 54, 55, 56, 57, 45, 46]
theorem hostL_fin : ∀ c : Fin 256, hostL.contains (UInt8.ofNat c.1) = hostB (UInt8.ofNat c.1) := by decide +kernel
theorem hostL_has (c : UInt8) : hostL.contains c = hostB c := by
  have := hostL_fin ⟨c.toNat, c.toNat_lt⟩
  simpa using this

def isHost (s : ByteArray) : Bool := s.data.toList.all hostB && decide (1 ≤ s.size ∧ s.size ≤ 64)
def pathB (c : UInt8) : Bool := plainB (c.toNat : Int) || decide (c = 47)
def isPath (s : ByteArray) : Bool := s.data.toList.all pathB && decide (s.data.toList.head? = some 47)

/-! strings.Trim leaves nothing just where all bytes are of the set. -/
theorem dw_all (p : UInt8 → Bool) : ∀ l : List UInt8, (∀ x ∈ l.dropWhile p, p x = true) → ∀ x ∈ l, p x = true
  | [], _, x, h => by cases h
  | a :: l, h, x, hx => by
    rw [List.dropWhile_cons] at h
    split at h
    · next ha =>
      rcases List.mem_cons.1 hx with rfl | hx
      · exact ha
      · exact dw_all p l h x hx
    · exact h x hx
theorem dw_nil (p : UInt8 → Bool) : ∀ l : List UInt8, (∀ x ∈ l, p x = true) → l.dropWhile p = []
  | [], _ => rfl
  | a :: l, h => by rw [List.dropWhile_cons, if_pos (h a (by simp)), dw_nil p l (fun x hx => h x (by simp [hx]))]
theorem dw_of_nil (p : UInt8 → Bool) : ∀ l : List UInt8, l.dropWhile p = [] → ∀ x ∈ l, p x = true
  | [], _, x, h => by cases h
  | a :: l, h, x, hx => by
    rw [List.dropWhile_cons] at h
    split at h
    · next ha =>
      rcases List.mem_cons.1 hx with rfl | hx
      · exact ha
      · exact dw_of_nil p l h x hx
    · cases h

theorem trim_nil (l cs : List UInt8) : Lib.trimS l cs = [] ↔ l.all (fun c => cs.contains c) = true := by
  unfold Lib.trimS Lib.trimLeftS Lib.trimRightS
  rw [List.all_eq_true]
  constructor
  · intro h x hx
    have h1 := dw_of_nil _ _ h
    have h2 := dw_all (fun c => cs.contains c) l.reverse (fun x hx => h1 x (by simpa using hx))
    exact h2 x (by simpa using hx)
  · intro h
    rw [dw_nil (fun c => cs.contains c) l.reverse (fun x hx => h x (by simpa using hx))]; rfl

theorem trim_host (s : ByteArray) : ((⟨(Lib.trimS s.data.toList hostL).toArray⟩ : ByteArray).toList).isEmpty = s.data.toList.all hostB := by
  have e := trim_nil s.data.toList hostL
  have e2 : (s.data.toList.all fun c => hostL.contains c) = s.data.toList.all hostB := by
    congr 1; funext c; exact hostL_has c
  rw [e2] at e
  rw [ByteArray.toList_eq, ba_list]
  cases h : s.data.toList.all hostB with
  | true => rw [e.2 h]; rfl
  | false =>
    cases h2 : Lib.trimS s.data.toList hostL with
    | nil => rw [e.1 h2] at h; cases h
    | cons _ _ => rfl

/-! What pct.Enc leaves as it is. -/
theorem encF_len (l : List UInt8) : l.length ≤ (encL false l).length := by
  induction l with
  | nil => simp
  | cons c l ih => rw [encL_cons, List.length_append, List.length_cons]; have := wr_pos false c; omega
theorem encF_same (l : List UInt8) : encL false l = l ↔ l.all (fun c => plainB (c.toNat : Int)) = true := by
  induction l with
  | nil => simp [encL]
  | cons c l ih =>
    rw [encL_cons, List.all_cons]
    by_cases hp : plainB (c.toNat : Int) = true
    · have e : wrL false c = [c] := by unfold wrL; rw [if_pos hp]
      rw [e, hp, Bool.true_and, ← ih]; simp
    · have e : (wrL false c).length = 3 := by unfold wrL; rw [if_neg hp, if_neg (by simp)]; rfl
      constructor
      · intro h
        have h1 := congrArg List.length h
        have h2 := encF_len l
        rw [List.length_append, List.length_cons] at h1; omega
      · intro h
        rw [Bool.and_eq_true] at h
        exact absurd h.1 hp

/-- The text without its slashes. -/
def bareS (s : ByteArray) : ByteArray := ⟨(s.data.toList.filter fun c => c != 47).toArray⟩
theorem bare_size (s : ByteArray) : (bareS s).size ≤ s.size := by
  rw [← size_list, ← size_list]; exact List.length_filter_le _ _
theorem path_bare (s : ByteArray) : ((encS false (bareS s)).toList == (bareS s).toList) = s.data.toList.all pathB := by
  have e := encF_same (s.data.toList.filter fun c => c != 47)
  have e2 : (s.data.toList.filter fun c => c != 47).all (fun c => plainB (c.toNat : Int)) = s.data.toList.all pathB := by
    generalize s.data.toList = l
    induction l with
    | nil => rfl
    | cons c l ih =>
      rw [List.filter_cons, List.all_cons]
      by_cases hc : c = 47
      · subst hc
        rw [if_neg (by decide), ih, show pathB 47 = true from by decide, Bool.true_and]
      · rw [if_pos (by simpa using hc), List.all_cons, ih]
        unfold pathB
        rw [decide_eq_false hc, Bool.or_false]
  rw [e2] at e
  cases h : s.data.toList.all pathB with
  | true => exact toList_eq (ba_ext (e.2 h))
  | false =>
    refine toList_ne (fun hh => ?_)
    have := e.1 (congrArg (·.data.toList) hh)
    rw [this] at h; cases h

/-! An address: Host, Path, Query. -/
abbrev Ur := ByteArray × ByteArray × List Fd
def u0 : Ur := (⟨#[]⟩, ⟨#[]⟩, [])
def httpsL : List UInt8 := [104, 116, 116, 112, 115, 58, 47, 47]
def httpsS : ByteArray := ⟨#[104, 116, 116, 112, 115, 58, 47, 47]⟩

/-- What is written of it. -/
def tgtS (u : Ur) : ByteArray := if u.2.2 = [] then u.2.1 else u.2.1 ++ ⟨#[63]⟩ ++ prS u.2.2
def uriS (u : Ur) : ByteArray := httpsS ++ u.1 ++ tgtS u

def unlB (l : List Fd) : Bool := (List.range l.length).all fun i => decide ((l.getD i fd0).1.size ≠ 0) && !hasF (l.take i) (l.getD i fd0).1
theorem unlB_is (l : List Fd) : unlB l = true ↔ Unl l := by
  unfold unlB Unl
  rw [List.all_eq_true]
  constructor
  · intro h i hi
    have := h i (List.mem_range.2 hi)
    simpa using this
  · intro h i hi
    have := h i (List.mem_range.1 hi)
    simpa using this

def mayU (u : Ur) : Bool := isHost u.1 && isPath u.2.1 && decide (u.2.2.length ≤ 24) && unlB u.2.2 && decide ((uriS u).size ≤ 1024)
theorem mayU_is (u : Ur) : mayU u = true ↔ isHost u.1 = true ∧ isPath u.2.1 = true ∧ u.2.2.length ≤ 24 ∧ Unl u.2.2 ∧ (uriS u).size ≤ 1024 := by
  unfold mayU
  simp only [Bool.and_eq_true, decide_eq_true_eq, unlB_is, and_assoc]

/-- What is read of a target, of an address (neither too long). -/
def tgtF (t : ByteArray) : Int × ByteArray × List Fd :=
  if isPath (cutX 63 t) = true ∧ ¬ (cutZ 63 t = true ∧ (cutY 63 t).size = 0) then
    if (parF (cutY 63 t)).1 = 0 then (0, cutX 63 t, (parF (cutY 63 t)).2) else ((parF (cutY 63 t)).1, ⟨#[]⟩, [])
  else (3, ⟨#[]⟩, [])
def splF (t : ByteArray) : Int × ByteArray × List Fd := if 1024 < t.size then (4, ⟨#[]⟩, []) else tgtF t
def adrF (r : ByteArray) : Int × Ur :=
  if cutZ 47 r = true ∧ isHost (cutX 47 r) = true then
    if (tgtF (⟨#[47]⟩ ++ cutY 47 r)).1 = 0 then (0, cutX 47 r, (tgtF (⟨#[47]⟩ ++ cutY 47 r)).2) else ((tgtF (⟨#[47]⟩ ++ cutY 47 r)).1, u0)
  else (3, u0)
def prsF (s : ByteArray) : Int × Ur :=
  if 1024 < s.size then (4, u0) else if Lib.hasPrefix s.data.toList httpsL = true then adrF (s.extract 8 s.size) else (3, u0)

theorem cut_back {c : UInt8} {s : ByteArray} (h : cutZ c s = true) : s = cutX c s ++ ⟨#[c]⟩ ++ cutY c s := by
  cases hc : cutL c s.data.toList with
  | none => rw [(cut_miss hc).2.2] at h; cases h
  | some x =>
    obtain ⟨a, b⟩ := x
    obtain ⟨e1, e2, _⟩ := cut_hit hc
    obtain ⟨e, _⟩ := cutL_some c _ a b hc
    apply ba_ext
    rw [ba_app, ba_app, e1, e2, e]; simp
theorem cut_not {c : UInt8} {s : ByteArray} (h : cutZ c s = false) : cutX c s = s ∧ cutY c s = ⟨#[]⟩ := by
  cases hc : cutL c s.data.toList with
  | none => exact ⟨(cut_miss hc).1, (cut_miss hc).2.1⟩
  | some x =>
    obtain ⟨a, b⟩ := x
    rw [(cut_hit hc).2.2] at h; cases h
theorem cut_free {c : UInt8} {s : ByteArray} : ∀ d ∈ (cutX c s).data.toList, (d == c) = false := by
  cases hc : cutL c s.data.toList with
  | none => rw [(cut_miss hc).1]; exact cutL_none c _ hc
  | some x =>
    obtain ⟨a, b⟩ := x
    rw [(cut_hit hc).1]
    exact (cutL_some c _ a b hc).2
theorem cut_app {c : UInt8} {a b : ByteArray} (h : ∀ d ∈ a.data.toList, (d == c) = false) : cutX c (a ++ ⟨#[c]⟩ ++ b) = a ∧ cutY c (a ++ ⟨#[c]⟩ ++ b) = b ∧ cutZ c (a ++ ⟨#[c]⟩ ++ b) = true := by
  have e : cutL c (a ++ ⟨#[c]⟩ ++ b).data.toList = some (a.data.toList, b.data.toList) := by
    rw [ba_app, ba_app, List.append_assoc]
    exact cutL_app c a.data.toList b.data.toList h
  obtain ⟨e1, e2, e3⟩ := cut_hit e
  exact ⟨e1.trans (ba_back a), e2.trans (ba_back b), e3⟩
theorem cut_whole {c : UInt8} {a : ByteArray} (h : ∀ d ∈ a.data.toList, (d == c) = false) : cutX c a = a ∧ cutY c a = ⟨#[]⟩ ∧ cutZ c a = false := by
  obtain ⟨e1, e2, e3⟩ := cut_miss (cutL_no c _ h)
  exact ⟨e1, e2, e3⟩

theorem host_free {s : ByteArray} (h : isHost s = true) : ∀ d ∈ s.data.toList, (d == (47 : UInt8)) = false := by
  intro d hd
  unfold isHost at h
  rw [Bool.and_eq_true, List.all_eq_true] at h
  have := h.1 d hd
  rw [beq_eq_false_iff_ne]
  rintro rfl
  exact absurd this (by decide)
theorem path_free {s : ByteArray} (h : isPath s = true) : ∀ d ∈ s.data.toList, (d == (63 : UInt8)) = false := by
  intro d hd
  unfold isPath at h
  rw [Bool.and_eq_true, List.all_eq_true] at h
  have := h.1 d hd
  rw [beq_eq_false_iff_ne]
  rintro rfl
  exact absurd this (by decide)
theorem path_front {s : ByteArray} (h : isPath s = true) : ∃ r : ByteArray, s = ⟨#[47]⟩ ++ r := by
  unfold isPath at h
  rw [Bool.and_eq_true, decide_eq_true_eq] at h
  cases hl : s.data.toList with
  | nil => rw [hl] at h; cases h.2
  | cons a t =>
    rw [hl] at h
    have ha : a = 47 := by simpa using h.2
    subst ha
    exact ⟨⟨t.toArray⟩, ba_ext (by rw [ba_app, hl]; rfl)⟩

theorem prS_ne {l : List Fd} (h : l ≠ []) : (prS l).size ≠ 0 := by
  rw [← size_list]; intro h0
  exact prL_ne h (List.eq_nil_of_length_eq_zero h0)
theorem prS_nil {l : List Fd} (h : (prS l).size = 0) : l = [] := by
  by_cases hl : l = []
  · exact hl
  · exact absurd h (prS_ne hl)

/-- What is written of a target is read as that. -/
theorem tgt_back {u : Ur} (hp : isPath u.2.1 = true) (hn : u.2.2.length ≤ 24) (hu : Unl u.2.2) : tgtF (tgtS u) = (0, u.2) := by
  obtain ⟨h, p, l⟩ := u
  unfold tgtS tgtF
  dsimp only at *
  by_cases hl : l = []
  · subst hl
    rw [if_pos rfl]
    obtain ⟨e1, e2, e3⟩ := cut_whole (path_free hp)
    rw [e1, e2, e3, if_pos ⟨hp, by simp⟩, show parF ⟨#[]⟩ = (0, []) from rfl, if_pos rfl]
  · rw [if_neg hl]
    obtain ⟨e1, e2, e3⟩ := cut_app (b := prS l) (path_free hp)
    rw [e1, e2, e3, if_pos ⟨hp, fun h => prS_ne hl h.2⟩, par_pr hu hn, if_pos rfl]

theorem tgt_ok {t : ByteArray} (h : (tgtF t).1 = 0) (x : ByteArray) : isPath (tgtF t).2.1 = true ∧ (tgtF t).2.2.length ≤ 24 ∧ Unl (tgtF t).2.2 ∧ tgtS (x, (tgtF t).2) = t := by
  unfold tgtF at h ⊢
  split at h
  · next hc =>
    split at h
    · next hp =>
      rw [if_pos hc, if_pos hp]
      dsimp only
      obtain ⟨g1, g2⟩ := par_ok _ hp
      refine ⟨hc.1, par_len _, g1, ?_⟩
      unfold tgtS
      dsimp only
      cases hz : cutZ 63 t with
      | true =>
        have hy : (cutY 63 t).size ≠ 0 := fun h => hc.2 ⟨hz, h⟩
        rw [if_neg (fun e => hy (by rw [e] at g2; rw [← g2]; rfl)), g2]
        exact (cut_back hz).symm
      | false =>
        obtain ⟨e1, e2⟩ := cut_not hz
        rw [e2, if_pos (by rfl), e1]
    · next hp => exact absurd h hp
  · cases h

theorem https_front (r : ByteArray) : Lib.hasPrefix (httpsS ++ r).data.toList httpsL = true ∧ (httpsS ++ r).extract 8 (httpsS ++ r).size = r := by
  refine ⟨by rw [ba_app]; exact has_append httpsL _, ba_ext ?_⟩
  rw [ext_list, ba_app]
  have e : httpsS.data.toList = httpsL := rfl
  rw [e, show ((httpsL ++ r.data.toList).drop 8) = r.data.toList from rfl, List.take_of_length_le]
  rw [size_list, ByteArray.size_append, show httpsS.size = 8 from rfl]
  omega
theorem https_back {s : ByteArray} (h : Lib.hasPrefix s.data.toList httpsL = true) : s = httpsS ++ s.extract 8 s.size := by
  obtain ⟨t, e, _⟩ := has_split h
  apply ba_ext
  rw [ba_app, ext_list, e, show httpsS.data.toList = httpsL from rfl, show ((httpsL ++ t).drop 8) = t from rfl, List.take_of_length_le]
  have := congrArg List.length e
  rw [size_list, List.length_append, show httpsL.length = 8 from rfl] at this
  omega

/-- What is printed is parsed. -/
theorem prs_back {u : Ur} (h : mayU u = true) : prsF (uriS u) = (0, u) := by
  obtain ⟨h1, h2, h3, h4, h5⟩ := (mayU_is u).1 h
  have hb := tgt_back h2 h3 h4
  obtain ⟨r, hr⟩ : ∃ r : ByteArray, tgtS u = ⟨#[47]⟩ ++ r := by
    obtain ⟨r, e⟩ := path_front h2
    unfold tgtS
    split
    · exact ⟨r, e⟩
    · exact ⟨r ++ ⟨#[63]⟩ ++ prS u.2.2, by rw [e]; apply ba_ext; simp only [ba_app, List.append_assoc]⟩
  have e0 : uriS u = httpsS ++ (u.1 ++ tgtS u) := by unfold uriS; apply ba_ext; simp only [ba_app, List.append_assoc]
  have e1 : u.1 ++ tgtS u = u.1 ++ ⟨#[47]⟩ ++ r := by rw [hr]; apply ba_ext; simp only [ba_app, List.append_assoc]
  obtain ⟨f1, f2⟩ := https_front (u.1 ++ tgtS u)
  obtain ⟨c1, c2, c3⟩ := cut_app (b := r) (host_free h1)
  unfold prsF
  rw [if_neg (by omega), e0, if_pos f1, f2, e1]
  unfold adrF
  rw [c1, c2, c3, if_pos ⟨rfl, h1⟩, ← hr, hb, if_pos rfl]

/-- What is parsed may be, and is printed just so. -/
theorem prs_ok {s : ByteArray} (h : (prsF s).1 = 0) : mayU (prsF s).2 = true ∧ uriS (prsF s).2 = s := by
  unfold prsF at h ⊢
  split at h
  · cases h
  · next hs =>
    rw [if_neg hs]
    split at h
    · next hh =>
      rw [if_pos hh]
      have eh := https_back hh
      generalize hr : s.extract 8 s.size = r at *
      unfold adrF at h ⊢
      split at h
      · next hc =>
        rw [if_pos hc]
        split at h
        · next ht =>
          rw [if_pos ht]
          dsimp only
          obtain ⟨g1, g2, g3, g4⟩ := tgt_ok ht (cutX 47 r)
          have e : uriS (cutX 47 r, (tgtF (⟨#[47]⟩ ++ cutY 47 r)).2) = s := by
            unfold uriS
            rw [g4]
            dsimp only
            conv => rhs; rw [eh, cut_back hc.1]
            apply ba_ext; simp only [ba_app, List.append_assoc]
          exact ⟨(mayU_is _).2 ⟨hc.2, g1, g2, g3, by rw [e]; omega⟩, e⟩
        · next ht => exact absurd h ht
      · cases h
    · cases h

theorem prF_inj {f g : Fd} (h : prF f = prF g) : f = g := by
  have a := fun f : Fd => (cutL_app 61 (encL true f.1.data.toList) (encL true f.2.data.toList) (fun d hd => (enc_free _ d hd).2))
  have hc : cutL 61 (prF f) = cutL 61 (prF g) := by rw [h]
  unfold prF at hc
  rw [a f, a g] at hc
  injection hc with hc
  injection hc with h1 h2
  have inj : ∀ x y : ByteArray, encL true x.data.toList = encL true y.data.toList → x = y := fun x y e => by
    have : encS true x = encS true y := by unfold encS; rw [e]
    rw [← decX_enc true x, ← decX_enc true y, this]
  obtain ⟨x, y⟩ := f
  obtain ⟨x', y'⟩ := g
  rw [inj x x' h1, inj y y' h2]
theorem map_prF : ∀ l m : List Fd, l.map prF = m.map prF → l = m
  | [], [], _ => rfl
  | [], _ :: _, h => by simp at h
  | _ :: _, [], h => by simp at h
  | f :: l, g :: m, h => by
    rw [List.map_cons, List.map_cons] at h
    injection h with h1 h2
    rw [prF_inj h1, map_prF l m h2]
theorem prS_inj {l m : List Fd} (h : prS l = prS m) : l = m := by
  by_cases hl : l = []
  · subst hl; exact (prS_nil (by rw [← h]; rfl)).symm
  · have hm : m ≠ [] := fun e => by subst e; exact prS_ne hl (by rw [h]; rfl)
    have e1 := brk_prL hl
    have e2 := brk_prL hm
    have e : prL l = prL m := congrArg (·.data.toList) h
    rw [e, e2] at e1
    exact (map_prF _ _ e1).symm

theorem app_inj {a b c : ByteArray} (h : a ++ b = a ++ c) : b = c := by
  have := congrArg (·.data.toList) h
  simp only [ba_app] at this
  exact ba_ext (List.append_cancel_left this)
theorem tgt_inj {h1 h2 p : ByteArray} {l m : List Fd} (h : tgtS (h1, p, l) = tgtS (h2, p, m)) : l = m := by
  unfold tgtS at h
  dsimp only at h
  by_cases hl : l = []
  · by_cases hm : m = []
    · rw [hl, hm]
    · rw [if_pos hl, if_neg hm] at h
      have := congrArg ByteArray.size h
      rw [ByteArray.size_append, ByteArray.size_append] at this
      have e1 : (⟨#[63]⟩ : ByteArray).size = 1 := rfl
      omega
  · by_cases hm : m = []
    · rw [if_neg hl, if_pos hm] at h
      have := congrArg ByteArray.size h
      rw [ByteArray.size_append, ByteArray.size_append] at this
      have e1 : (⟨#[63]⟩ : ByteArray).size = 1 := rfl
      omega
    · rw [if_neg hl, if_neg hm] at h
      exact prS_inj (app_inj h)

/-- An address may be just where what is written of it is read with the same Host and the same Path. -/
theorem may_read (u : Ur) : mayU u = true ↔ (prsF (uriS u)).1 = 0 ∧ (prsF (uriS u)).2.1 = u.1 ∧ (prsF (uriS u)).2.2.1 = u.2.1 := by
  constructor
  · intro h; rw [prs_back h]; exact ⟨rfl, rfl, rfl⟩
  · rintro ⟨h1, h2, h3⟩
    obtain ⟨g1, g2⟩ := prs_ok h1
    generalize (prsF (uriS u)).2 = v at *
    obtain ⟨h, p, l⟩ := u
    obtain ⟨h', p', l'⟩ := v
    dsimp only at h2 h3
    subst h2 h3
    have e : l' = l := by
      unfold uriS at g2
      dsimp only at g2
      exact tgt_inj (app_inj g2)
    rw [← e]; exact g1

/-- How long what is written is at least. -/
def lenU (u : Ur) : Nat := 8 + u.1.size + u.2.1.size + (sumF u.2.2 + u.2.2.length)
theorem uri_len (u : Ur) : lenU u ≤ (uriS u).size := by
  unfold lenU uriS tgtS
  rw [ByteArray.size_append, ByteArray.size_append, show httpsS.size = 8 from rfl]
  split
  · next h => rw [h]; simp [sumF]
  · have := (prL_len u.2.2).2
    have e := prS_size u.2.2
    rw [ByteArray.size_append, ByteArray.size_append, show (⟨#[63]⟩ : ByteArray).size = 1 from rfl]
    omega
theorem may_long (u : Ur) (h : 1024 < lenU u) : mayU u = false := by
  cases hm : mayU u with
  | false => rfl
  | true => have := ((mayU_is u).1 hm).2.2.2.2; have := uri_len u; omega
theorem uri_most (u : Ur) : (uriS u).size ≤ 9 + u.1.size + u.2.1.size + 3 * sumF u.2.2 + 2 * u.2.2.length := by
  unfold uriS tgtS
  rw [ByteArray.size_append, ByteArray.size_append, show httpsS.size = 8 from rfl]
  split
  · next h => omega
  · have := (prL_len u.2.2).1
    have e := prS_size u.2.2
    rw [ByteArray.size_append, ByteArray.size_append, show (⟨#[63]⟩ : ByteArray).size = 1 from rfl]
    omega

/-- Target, Print. -/
def targetS (u : Ur) : ByteArray := if mayU u = true then tgtS u else ⟨#[]⟩
def printS (u : Ur) : ByteArray := if mayU u = true then uriS u else ⟨#[]⟩

theorem tgt_er (t : ByteArray) : (tgtF t).1 ≠ 0 → (tgtF t).2 = (⟨#[]⟩, []) := by
  unfold tgtF
  split
  · split
    · intro h; exact absurd rfl h
    · intro _; rfl
  · intro _; rfl
theorem adr_er (t : ByteArray) : (adrF t).1 ≠ 0 → (adrF t).2 = u0 := by
  unfold adrF
  split
  · split
    · intro h; exact absurd rfl h
    · intro _; rfl
  · intro _; rfl

end Go.Proofs.YtfoeeocejcbmlaaGreatDoor
