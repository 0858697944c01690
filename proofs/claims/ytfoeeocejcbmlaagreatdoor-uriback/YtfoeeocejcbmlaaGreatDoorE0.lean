import Derived.Test.YtfoeeocejcbmlaaGreatDoorT8
import Derived.Test.YtfoeeocejcbmlaaGreatDoorBA
import Derived.Lib.Strings
namespace Go.Proofs.YtfoeeocejcbmlaaGreatDoor
open Go.RowKit
set_option linter.unusedVariables false
set_option linter.unusedSimpArgs false

/-- The sign of a half of a byte. -/
def hexN (n : Nat) : Nat := if n < 10 then 48 + n else 55 + n

/-- How a byte is written. -/
def wrL (form : Bool) (c : UInt8) : List UInt8 :=
  if plainB (c.toNat : Int) = true then [c] else if form = true ∧ c.toNat = 32 then [43] else [37, UInt8.ofNat (hexN (c.toNat / 16)), UInt8.ofNat (hexN (c.toNat % 16))]

def encL (form : Bool) (l : List UInt8) : List UInt8 := l.flatMap (wrL form)

/-- The number of a digit, 0 of what is none. -/
def halfN (c : Nat) : Nat := if 48 ≤ c ∧ c ≤ 57 then c - 48 else if 65 ≤ c ∧ c ≤ 70 then c - 55 else 0

/-- The byte that may be written at the front. -/
def guessL (l : List UInt8) : UInt8 :=
  if (l.getD 0 0).toNat = 43 then 32 else if (l.getD 0 0).toNat = 37 ∧ 3 ≤ l.length then UInt8.ofNat (halfN (l.getD 1 0).toNat * 16 + halfN (l.getD 2 0).toNat) else l.getD 0 0

def decA (form : Bool) : Nat → List UInt8 → List UInt8 → Option (List UInt8)
  | 0, l, acc => if l = [] then some acc else none
  | f + 1, l, acc => if l = [] then some acc else if Lib.hasPrefix l (wrL form (guessL l)) = true then decA form f (Lib.trimPrefix l (wrL form (guessL l))) (acc ++ [guessL l]) else none

theorem plain_not (c : Nat) (h : plainB (c : Int) = true) : c ≠ 43 ∧ c ≠ 37 ∧ c ≠ 32 ∧ c < 128 := by
  simp [plainB] at h; omega

theorem wr_ne (form : Bool) (c : UInt8) : wrL form c ≠ [] := by
  unfold wrL
  repeat' split
  all_goals simp
theorem wr_pos (form : Bool) (c : UInt8) : 1 ≤ (wrL form c).length := by
  have := wr_ne form c
  cases h : wrL form c with
  | nil => exact absurd h this
  | cons a l => simp
theorem wr_le (form : Bool) (c : UInt8) : (wrL form c).length ≤ 3 := by
  unfold wrL
  repeat' split
  all_goals simp

theorem half_hex : ∀ n : Fin 256, halfN (UInt8.ofNat (hexN (n.1 / 16))).toNat * 16 + halfN (UInt8.ofNat (hexN (n.1 % 16))).toNat = n.1 := by decide +kernel

theorem guess_wr (form : Bool) (c : UInt8) (t : List UInt8) : guessL (wrL form c ++ t) = c := by
  unfold wrL
  split
  · rename_i h
    have := plain_not _ h
    unfold guessL
    rw [show (([c] : List UInt8) ++ t).getD 0 0 = c from rfl, if_neg this.1, if_neg (fun h => this.2.1 h.1)]
  · split
    · rename_i h1 h2
      unfold guessL
      rw [show (([43] : List UInt8) ++ t).getD 0 0 = (43 : UInt8) from rfl, if_pos (by decide)]
      exact UInt8.toNat_inj.1 (by rw [h2.2]; rfl)
    · unfold guessL
      rw [show ([37, UInt8.ofNat (hexN (c.toNat / 16)), UInt8.ofNat (hexN (c.toNat % 16))] ++ t).getD 0 0 = (37 : UInt8) from rfl, if_neg (by decide), if_pos ⟨by decide, by simp⟩]
      have := half_hex ⟨c.toNat, c.toNat_lt⟩
      show UInt8.ofNat (halfN (UInt8.ofNat (hexN (c.toNat / 16))).toNat * 16 + halfN (UInt8.ofNat (hexN (c.toNat % 16))).toNat) = c
      rw [this]; simp

theorem encL_cons (form : Bool) (c : UInt8) (l : List UInt8) : encL form (c :: l) = wrL form c ++ encL form l := by simp [encL]
theorem encL_append (form : Bool) (a b : List UInt8) : encL form (a ++ b) = encL form a ++ encL form b := by simp [encL]

theorem has_append (a t : List UInt8) : Lib.hasPrefix (a ++ t) a = true := by simp [Lib.hasPrefix]
theorem trim_append (a t : List UInt8) : Lib.trimPrefix (a ++ t) a = t := by simp [Lib.trimPrefix, has_append]
theorem has_split {l a : List UInt8} (h : Lib.hasPrefix l a = true) : ∃ t, l = a ++ t ∧ Lib.trimPrefix l a = t := by
  have h' := h
  simp only [Lib.hasPrefix, List.isPrefixOf_iff_prefix] at h
  obtain ⟨t, rfl⟩ := h
  exact ⟨t, rfl, trim_append _ _⟩

theorem decA_enc (form : Bool) : ∀ (y : List UInt8) (f : Nat) (acc : List UInt8), (encL form y).length ≤ f → decA form f (encL form y) acc = some (acc ++ y)
  | [], f, acc, _ => by cases f <;> simp [decA, encL]
  | c :: y, f, acc, h => by
    have h1 := wr_pos form c
    have hn : encL form (c :: y) ≠ [] := by rw [encL_cons]; intro h; simp at h; exact wr_ne form c h.1
    have hl : (encL form (c :: y)).length = (wrL form c).length + (encL form y).length := by rw [encL_cons, List.length_append]
    obtain ⟨f, rfl⟩ : ∃ g, f = g + 1 := ⟨f - 1, by omega⟩
    rw [decA, if_neg hn, encL_cons, guess_wr, if_pos (has_append _ _), trim_append, decA_enc form y f _ (by omega)]
    simp

theorem decA_only (form : Bool) : ∀ (f : Nat) (l acc r : List UInt8), decA form f l acc = some r → ∃ y, r = acc ++ y ∧ encL form y = l
  | 0, l, acc, r, h => by
    simp only [decA] at h
    split at h
    · rename_i e; injection h with h; exact ⟨[], by simp [h], by simp [encL, e]⟩
    · cases h
  | f + 1, l, acc, r, h => by
    rw [decA] at h
    split at h
    · rename_i e; injection h with h; exact ⟨[], by simp [h], by simp [encL, e]⟩
    · split at h
      · rename_i hp
        obtain ⟨t, e1, e2⟩ := has_split hp
        rw [e2] at h
        obtain ⟨y, rfl, hy⟩ := decA_only form f t _ r h
        exact ⟨guessL l :: y, by simp, by rw [encL_cons, hy, ← e1]⟩
      · cases h

/-- The text's bytes, written. -/
def encS (form : Bool) (s : ByteArray) : ByteArray := ⟨(encL form s.data.toList).toArray⟩
def decO (form : Bool) (s : ByteArray) : Option (List UInt8) := decA form s.size s.data.toList []
/-- What Dec reads, and its error. -/
def decX (form : Bool) (s : ByteArray) : ByteArray := ⟨((decO form s).getD []).toArray⟩
def decN (form : Bool) (s : ByteArray) : Int := if (decO form s).isSome = true then 0 else 3

theorem encL_len (form : Bool) (l : List UInt8) : (encL form l).length ≤ 3 * l.length := by
  induction l with
  | nil => simp [encL]
  | cons c l ih => rw [encL_cons, List.length_append, List.length_cons]; have := wr_le form c; omega
theorem encS_size (form : Bool) (s : ByteArray) : (encS form s).size ≤ 3 * s.size := by
  have := encL_len form s.data.toList
  rw [size_list] at this
  have e : (encS form s).size = (encL form s.data.toList).length := by rw [← size_list]; rfl
  rw [e]; exact this
theorem encS_app (form : Bool) (s t : ByteArray) : encS form (s ++ t) = encS form s ++ encS form t := ba_ext (by rw [ba_app]; simp only [encS, ba_list, ba_app, encL_append])

theorem decO_enc (form : Bool) (s : ByteArray) : decO form (encS form s) = some s.data.toList := by
  unfold decO
  have := decA_enc form s.data.toList (encS form s).size [] (by rw [← size_list]; exact Nat.le_refl _)
  rw [List.nil_append] at this; exact this
theorem decX_enc (form : Bool) (s : ByteArray) : decX form (encS form s) = s := by unfold decX; rw [decO_enc]; rfl
theorem decN_enc (form : Bool) (s : ByteArray) : decN form (encS form s) = 0 := by unfold decN; rw [decO_enc]; rfl
theorem dec_case (form : Bool) (s : ByteArray) : (decN form s = 0 ∧ encS form (decX form s) = s) ∨ (decN form s = 3 ∧ decX form s = ⟨#[]⟩ ∧ ∀ y, encL form y ≠ s.data.toList) := by
  cases h : decO form s with
  | none =>
    right; refine ⟨by simp [decN, h], by simp [decX, h], fun y hy => ?_⟩
    have := decA_enc form y s.size [] (by rw [hy, size_list]; exact Nat.le_refl _)
    unfold decO at h
    rw [hy, h] at this; cases this
  | some r =>
    left; refine ⟨by simp [decN, h], ?_⟩
    obtain ⟨y, e, hy⟩ := decA_only form s.size s.data.toList [] r h
    have e : r = y := by simpa using e
    subst e
    exact ba_ext (by simp [decX, h, encS, hy])

/-- The number of a digit, -1 of what is none. -/
def digN (c : Nat) : Int := if 48 ≤ c ∧ c ≤ 57 then (c : Int) - 48 else if 65 ≤ c ∧ c ≤ 70 then (c : Int) - 55 else -1

/-- What the reference reads, ahead of its last test. -/
def rdec (form : Bool) : Nat → List UInt8 → List UInt8 → Option (List UInt8)
  | 0, l, acc => if l = [] then some acc else none
  | f + 1, l, acc => if l = [] then some acc else
    if plainB ((l.getD 0 0).toNat : Int) = true then rdec form f (l.drop 1) (acc ++ [l.getD 0 0]) else
    if form = true ∧ (l.getD 0 0).toNat = 43 then rdec form f (l.drop 1) (acc ++ [32]) else
    if (l.getD 0 0).toNat = 37 ∧ 2 < l.length ∧ 0 ≤ digN (l.getD 1 0).toNat ∧ 0 ≤ digN (l.getD 2 0).toNat then rdec form f (l.drop 3) (acc ++ [UInt8.ofNat (digN (l.getD 1 0).toNat * 16 + digN (l.getD 2 0).toNat).toNat]) else none

theorem dig_hex : ∀ n : Fin 16, digN (UInt8.ofNat (hexN n.1)).toNat = (n.1 : Int) := by decide +kernel

theorem rdec_enc (form : Bool) : ∀ (y : List UInt8) (f : Nat) (acc : List UInt8), (encL form y).length ≤ f → rdec form f (encL form y) acc = some (acc ++ y)
  | [], f, acc, _ => by cases f <;> simp [rdec, encL]
  | c :: y, f, acc, h => by
    have h1 := wr_pos form c
    have hn : encL form (c :: y) ≠ [] := by rw [encL_cons]; intro h; simp at h; exact wr_ne form c h.1
    have hl : (encL form (c :: y)).length = (wrL form c).length + (encL form y).length := by rw [encL_cons, List.length_append]
    obtain ⟨f, rfl⟩ : ∃ g, f = g + 1 := ⟨f - 1, by omega⟩
    have ih := rdec_enc form y f (acc ++ [c]) (by omega)
    rw [rdec, if_neg hn, encL_cons]
    have hc := c.toNat_lt
    unfold wrL
    split
    · rename_i hp
      rw [if_pos (by exact hp)]
      show rdec form f (encL form y) (acc ++ [c]) = _
      rw [ih]; simp
    · rename_i hp
      split
      · rename_i h2
        have e : c = 32 := UInt8.toNat_inj.1 (by rw [h2.2]; rfl)
        rw [if_neg (by show ¬ plainB ((43 : UInt8).toNat : Int) = true; decide), if_pos ⟨h2.1, rfl⟩]
        show rdec form f (encL form y) (acc ++ [32]) = _
        rw [e] at ih; rw [ih, e]; simp
      · have d1 := dig_hex ⟨c.toNat / 16, by omega⟩
        have d2 := dig_hex ⟨c.toNat % 16, by omega⟩
        simp only at d1 d2
        rw [if_neg (by show ¬ plainB ((37 : UInt8).toNat : Int) = true; decide), if_neg (by rintro ⟨_, h⟩; exact absurd h (by show ¬ (37 : UInt8).toNat = 43; decide))]
        have g1 : ([37, UInt8.ofNat (hexN (c.toNat / 16)), UInt8.ofNat (hexN (c.toNat % 16))] ++ encL form y).getD 1 0 = UInt8.ofNat (hexN (c.toNat / 16)) := rfl
        have g2 : ([37, UInt8.ofNat (hexN (c.toNat / 16)), UInt8.ofNat (hexN (c.toNat % 16))] ++ encL form y).getD 2 0 = UInt8.ofNat (hexN (c.toNat % 16)) := rfl
        rw [g1, g2, d1, d2, if_pos ⟨rfl, by simp, by omega, by omega⟩]
        show rdec form f (encL form y) (acc ++ [UInt8.ofNat (((c.toNat / 16 : Nat) : Int) * 16 + ((c.toNat % 16 : Nat) : Int)).toNat]) = _
        rw [show (((c.toNat / 16 : Nat) : Int) * 16 + ((c.toNat % 16 : Nat) : Int)).toNat = c.toNat by omega, show UInt8.ofNat c.toNat = c by simp, ih]
        simp

/-- The reference's answer is Dec's. -/
theorem rdec_none (form : Bool) (s : ByteArray) (h : rdec form s.size s.data.toList [] = none) : decN form s = 3 ∧ decX form s = ⟨#[]⟩ := by
  rcases dec_case form s with ⟨h1, h2⟩ | ⟨h1, h2, _⟩
  · have e : encL form (decX form s).data.toList = s.data.toList := by rw [← ba_list (encL form (decX form s).data.toList)]; exact congrArg (·.data.toList) h2
    have := rdec_enc form (decX form s).data.toList s.size [] (by rw [e, size_list]; exact Nat.le_refl _)
    rw [e, h] at this; cases this
  · exact ⟨h1, h2⟩
theorem rdec_some (form : Bool) (s : ByteArray) (b : List UInt8) (h : rdec form s.size s.data.toList [] = some b) :
    (encS form ⟨b.toArray⟩ = s → decN form s = 0 ∧ decX form s = ⟨b.toArray⟩) ∧ (encS form ⟨b.toArray⟩ ≠ s → decN form s = 3 ∧ decX form s = ⟨#[]⟩) := by
  refine ⟨fun e => ?_, fun ne => ?_⟩
  · rw [← e]; exact ⟨decN_enc _ _, decX_enc _ _⟩
  · rcases dec_case form s with ⟨h1, h2⟩ | ⟨h1, h2, _⟩
    · have e : encL form (decX form s).data.toList = s.data.toList := by rw [← ba_list (encL form (decX form s).data.toList)]; exact congrArg (·.data.toList) h2
      have := rdec_enc form (decX form s).data.toList s.size [] (by rw [e, size_list]; exact Nat.le_refl _)
      rw [e, h] at this
      injection this with this
      have : (⟨b.toArray⟩ : ByteArray) = decX form s := ba_ext (by simpa using this)
      rw [this] at ne; exact absurd h2 ne
    · exact ⟨h1, h2⟩

end Go.Proofs.YtfoeeocejcbmlaaGreatDoor
