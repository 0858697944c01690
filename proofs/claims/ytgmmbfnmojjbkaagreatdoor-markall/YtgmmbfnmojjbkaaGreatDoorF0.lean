import Derived.Test.YtgmmbfnmojjbkaaGreatDoorBA
import Derived.Lib.Bytealg
namespace Go.Proofs.YtgmmbfnmojjbkaaGreatDoor
open Go.RowKit
set_option linter.unusedVariables false
set_option linter.unusedSimpArgs false

/-- The sixty-four signs. -/
def sgL : List UInt8 := [65, 66, 67, 68, 69, 70, 71, 72, 73, 74, 75, 76, 77, 78, 79, 80, 81, 82, 83, 84, 85, 86, 87, 88, 89, 90, 97, 98, 99, 100, 101, 102, 103, 104, 105, 106, 107, 108, 109, 110, 111, 112, 113, 114, 115, 116, 117, 118, 119, 120, 121, 122, 48, 49, 50, 51, 52, 53, 54, 55, 56, 57, 45, 95]
def sg (n : Nat) : UInt8 := sgL.getD n 0

/-- The number of a sign, -1 of what is none. -/
def sgI (c : UInt8) : Int := Lib.indexByte sgL c
/-- The number of a sign, 0 of what is none. -/
def sgN (c : UInt8) : Nat := (sgI c).toNat

theorem sgI_all : ∀ c : Fin 256, (-1 : Int) ≤ sgI (UInt8.ofNat c.1) ∧ sgI (UInt8.ofNat c.1) < 64 ∧ (0 ≤ sgI (UInt8.ofNat c.1) → sg (sgN (UInt8.ofNat c.1)) = UInt8.ofNat c.1) := by decide +kernel
theorem sgI_at (c : UInt8) : (-1 : Int) ≤ sgI c ∧ sgI c < 64 ∧ (0 ≤ sgI c → sg (sgN c) = c) := by
  have := sgI_all ⟨c.toNat, c.toNat_lt⟩
  simpa using this
theorem sgN_lt (c : UInt8) : sgN c < 64 := by
  have := sgI_at c
  unfold sgN; omega
theorem sgI_fin : ∀ n : Fin 64, sgI (sg n.1) = (n.1 : Int) := by decide +kernel
theorem sgI_sg (n : Nat) (h : n < 64) : sgI (sg n) = (n : Int) := sgI_fin ⟨n, h⟩
theorem sgN_sg (n : Nat) (h : n < 64) : sgN (sg n) = n := by unfold sgN; rw [sgI_sg n h]; rfl

/-- Three bytes by four signs. -/
def four (a b c : Nat) : List UInt8 := [sg (a / 4), sg (a % 4 * 16 + b / 16), sg (b % 16 * 4 + c / 64), sg (c % 64)]

def b64L : List UInt8 → List UInt8
  | a :: b :: c :: t => four a.toNat b.toNat c.toNat ++ b64L t
  | [a, b] => (four a.toNat b.toNat 0).take 3
  | [a] => (four a.toNat 0 0).take 2
  | [] => []

/-- Whole groups alone. -/
def fours : List UInt8 → List UInt8
  | a :: b :: c :: t => four a.toNat b.toNat c.toNat ++ fours t
  | _ => []

theorem four_len (a b c : Nat) : (four a b c).length = 4 := rfl

/-- What of l lacks to whole groups of n. -/
def lack (n : Nat) (l : List UInt8) : Nat := (n - l.length % n) % n
def padL (n : Nat) (z : UInt8) (l : List UInt8) : List UInt8 := l ++ List.replicate (lack n l) z

theorem pad3_cons (z a b c : UInt8) (t : List UInt8) : padL 3 z (a :: b :: c :: t) = a :: b :: c :: padL 3 z t := by
  have e : lack 3 (a :: b :: c :: t) = lack 3 t := by simp only [lack, List.length_cons]; omega
  simp [padL, e]
theorem pad4_cons (z a b c d : UInt8) (t : List UInt8) : padL 4 z (a :: b :: c :: d :: t) = a :: b :: c :: d :: padL 4 z t := by
  have e : lack 4 (a :: b :: c :: d :: t) = lack 4 t := by simp only [lack, List.length_cons]; omega
  simp [padL, e]
theorem pad_len (n : Nat) (hn : 0 < n) (z : UInt8) (l : List UInt8) : (padL n z l).length % n = 0 := by
  have h := Nat.div_add_mod l.length n
  have h1 := Nat.mod_lt l.length hn
  simp only [padL, List.length_append, List.length_replicate, lack]
  by_cases h0 : l.length % n = 0
  · rw [h0]; simp [h0]
  · rw [Nat.mod_eq_of_lt (a := n - l.length % n) (by omega), show l.length + (n - l.length % n) = n * (l.length / n + 1) from by rw [Nat.mul_add]; omega]
    exact Nat.mul_mod_right _ _

theorem enc_fours : ∀ l : List UInt8, (fours (padL 3 0 l)).take (l.length + (l.length + 2) / 3) = b64L l
  | [] => by simp [padL, lack, fours, b64L]
  | [a] => by simp [padL, lack, fours, b64L, List.replicate, four]
  | [a, b] => by simp [padL, lack, fours, b64L, List.replicate, four]
  | a :: b :: c :: t => by
    rw [pad3_cons, fours, b64L, show (a :: b :: c :: t).length + ((a :: b :: c :: t).length + 2) / 3 = 4 + (t.length + (t.length + 2) / 3) from by simp only [List.length_cons]; omega, ← four_len a.toNat b.toNat c.toNat, List.take_length_add_append, enc_fours t]

theorem b64_len : ∀ l : List UInt8, (b64L l).length = (l.length * 8 + 5) / 6
  | [] => by simp [b64L]
  | [a] => by simp [b64L, four]
  | [a, b] => by simp [b64L, four]
  | a :: b :: c :: t => by
    rw [b64L, List.length_append, four_len, b64_len t]; simp only [List.length_cons]; omega
theorem b64_mod (l : List UInt8) : (b64L l).length % 4 ≠ 1 := by rw [b64_len]; omega

theorem b64_app : ∀ l r : List UInt8, l.length % 3 = 0 → b64L (l ++ r) = b64L l ++ b64L r
  | [], r, _ => rfl
  | [a], r, h => absurd h (by simp)
  | [a, b], r, h => absurd h (by simp)
  | a :: b :: c :: t, r, h => by
    have h' : t.length % 3 = 0 := by simp only [List.length_cons] at h; omega
    show b64L (a :: b :: c :: (t ++ r)) = _
    rw [b64L, b64L, b64_app t r h', List.append_assoc]

/-- The bits of four signs. -/
def bits4 (a b c d : UInt8) : Nat := ((sgN a * 64 + sgN b) * 64 + sgN c) * 64 + sgN d
/-- Four signs as three bytes. -/
def three (a b c d : UInt8) : List UInt8 := [UInt8.ofNat (bits4 a b c d / 65536), UInt8.ofNat (bits4 a b c d / 256), UInt8.ofNat (bits4 a b c d)]
theorem three_len (a b c d : UInt8) : (three a b c d).length = 3 := rfl

def threes : List UInt8 → List UInt8
  | a :: b :: c :: d :: t => three a b c d ++ threes t
  | _ => []

/-- The only bytes that may be written so. -/
def gL (l : List UInt8) : List UInt8 := (threes (padL 4 65 l)).take (l.length * 3 / 4)

theorem bits4_four (a b c : Nat) (ha : a < 256) (hb : b < 256) (hc : c < 256) : bits4 (sg (a / 4)) (sg (a % 4 * 16 + b / 16)) (sg (b % 16 * 4 + c / 64)) (sg (c % 64)) = a * 65536 + b * 256 + c := by
  unfold bits4
  rw [sgN_sg _ (by omega), sgN_sg _ (by omega), sgN_sg _ (by omega), sgN_sg _ (by omega)]
  omega
theorem u8_mul (a k n : Nat) (h : n = a % 256) : UInt8.ofNat n = UInt8.ofNat a := by
  apply UInt8.toNat_inj.1; simp; omega
theorem byte_of (a : UInt8) (n : Nat) (h : n % 256 = a.toNat) : UInt8.ofNat n = a := by
  apply UInt8.toNat_inj.1; simpa using h
theorem three_four (a b c : UInt8) : three (sg (a.toNat / 4)) (sg (a.toNat % 4 * 16 + b.toNat / 16)) (sg (b.toNat % 16 * 4 + c.toNat / 64)) (sg (c.toNat % 64)) = [a, b, c] := by
  have ha := a.toNat_lt
  have hb := b.toNat_lt
  have hc := c.toNat_lt
  unfold three
  rw [bits4_four _ _ _ ha hb hc, byte_of a _ (by omega), byte_of b _ (by omega), byte_of c _ (by omega)]

theorem sg0 : sg 0 = 65 := rfl

theorem g_enc : ∀ y : List UInt8, gL (b64L y) = y
  | [] => rfl
  | [a] => by
    have h := three_four a 0 0
    have e : padL 4 65 (b64L [a]) = [sg (a.toNat / 4), sg (a.toNat % 4 * 16 + (0 : UInt8).toNat / 16), sg ((0 : UInt8).toNat % 16 * 4 + (0 : UInt8).toNat / 64), sg ((0 : UInt8).toNat % 64)] := rfl
    unfold gL
    rw [e, threes, h, b64_len]; simp [threes]
  | [a, b] => by
    have h := three_four a b 0
    have e : padL 4 65 (b64L [a, b]) = [sg (a.toNat / 4), sg (a.toNat % 4 * 16 + b.toNat / 16), sg (b.toNat % 16 * 4 + (0 : UInt8).toNat / 64), sg ((0 : UInt8).toNat % 64)] := rfl
    unfold gL
    rw [e, threes, h, b64_len]; simp [threes]
  | a :: b :: c :: t => by
    have ih := g_enc t
    unfold gL at ih ⊢
    rw [b64L]
    show (threes (padL 4 65 (sg (a.toNat / 4) :: sg (a.toNat % 4 * 16 + b.toNat / 16) :: sg (b.toNat % 16 * 4 + c.toNat / 64) :: sg (c.toNat % 64) :: b64L t))).take _ = _
    rw [pad4_cons, threes, three_four, List.length_append, four_len, show (4 + (b64L t).length) * 3 / 4 = [a, b, c].length + (b64L t).length * 3 / 4 from by simp only [List.length_cons, List.length_nil]; omega, List.take_length_add_append, ih]
    rfl

/-- What is written by signs is read by four at a time: each four signs are written so again. -/
theorem four_three (a b c d : UInt8) (ha : 0 ≤ sgI a) (hb : 0 ≤ sgI b) (hc : 0 ≤ sgI c) (hd : 0 ≤ sgI d) : b64L (three a b c d) = [a, b, c, d] := by
  have la := sgN_lt a
  have lb := sgN_lt b
  have lc := sgN_lt c
  have ld := sgN_lt d
  have ea := (sgI_at a).2.2 ha
  have eb := (sgI_at b).2.2 hb
  have ec := (sgI_at c).2.2 hc
  have ed := (sgI_at d).2.2 hd
  show four (UInt8.ofNat (bits4 a b c d / 65536)).toNat (UInt8.ofNat (bits4 a b c d / 256)).toNat (UInt8.ofNat (bits4 a b c d)).toNat ++ b64L [] = _
  have e1 : (UInt8.ofNat (bits4 a b c d / 65536)).toNat = sgN a * 4 + sgN b / 16 := by unfold bits4; simp; omega
  have e2 : (UInt8.ofNat (bits4 a b c d / 256)).toNat = sgN b % 16 * 16 + sgN c / 4 := by unfold bits4; simp; omega
  have e3 : (UInt8.ofNat (bits4 a b c d)).toNat = sgN c % 4 * 64 + sgN d := by unfold bits4; simp; omega
  rw [e1, e2, e3]
  unfold four
  rw [show (sgN a * 4 + sgN b / 16) / 4 = sgN a from by omega, show (sgN a * 4 + sgN b / 16) % 4 * 16 + (sgN b % 16 * 16 + sgN c / 4) / 16 = sgN b from by omega, show (sgN b % 16 * 16 + sgN c / 4) % 16 * 4 + (sgN c % 4 * 64 + sgN d) / 64 = sgN c from by omega, show (sgN c % 4 * 64 + sgN d) % 64 = sgN d from by omega, ea, eb, ec, ed]
  rfl

/-- The bytes of a text, written. -/
def b64S (l : List UInt8) : ByteArray := ⟨(b64L l).toArray⟩
def dOk (l : List UInt8) : Bool := b64L (gL l) == l
/-- What Dec reads, and its error. -/
def dL (s : ByteArray) : List UInt8 := if dOk s.data.toList = true then gL s.data.toList else []
def dN (s : ByteArray) : Int := if dOk s.data.toList = true then 0 else 3

theorem dOk_enc (y : List UInt8) : dOk (b64L y) = true := by unfold dOk; rw [g_enc]; simp
theorem dL_enc (y : List UInt8) : dL (b64S y) = y := by unfold dL b64S; rw [ba_list, dOk_enc, if_pos rfl, g_enc]
theorem dN_enc (y : List UInt8) : dN (b64S y) = 0 := by unfold dN b64S; rw [ba_list, dOk_enc, if_pos rfl]
theorem d_case (s : ByteArray) : (dN s = 0 ∧ b64S (dL s) = s ∧ s.size % 4 ≠ 1) ∨ (dN s = 3 ∧ dL s = [] ∧ ∀ y, b64L y ≠ s.data.toList) := by
  unfold dN dL
  by_cases h : dOk s.data.toList = true
  · left
    rw [if_pos h, if_pos h]
    have e : b64L (gL s.data.toList) = s.data.toList := by simpa [dOk] using h
    refine ⟨rfl, ba_ext (by rw [b64S, ba_list, e]), ?_⟩
    rw [← size_list, ← e]; exact b64_mod _
  · right
    rw [if_neg h, if_neg h]
    refine ⟨rfl, rfl, fun y hy => h ?_⟩
    rw [← hy]; exact dOk_enc y

/-- What the reference reads, ahead of its last test. -/
def rd : Nat → Nat → List UInt8 → List UInt8 → Option (List UInt8)
  | _, _, [], acc => some acc
  | v, k, c :: t, acc => if sgI c < 0 then none else if 2 ≤ k then rd ((v * 64 + sgN c) % 2 ^ (k - 2)) (k - 2) t (acc ++ [UInt8.ofNat ((v * 64 + sgN c) / 2 ^ (k - 2))]) else rd (v * 64 + sgN c) (k + 6) t acc

theorem rd_sg (v k n : Nat) (t acc : List UInt8) (hn : n < 64) : rd v k (sg n :: t) acc = if 2 ≤ k then rd ((v * 64 + n) % 2 ^ (k - 2)) (k - 2) t (acc ++ [UInt8.ofNat ((v * 64 + n) / 2 ^ (k - 2))]) else rd (v * 64 + n) (k + 6) t acc := by
  rw [rd, sgI_sg n hn, if_neg (by omega), sgN_sg n hn]

theorem rd_enc : ∀ (y acc : List UInt8), rd 0 0 (b64L y) acc = some (acc ++ y)
  | [], acc => by simp [b64L, rd]
  | [a], acc => by
    have ha := a.toNat_lt
    show rd 0 0 [sg (a.toNat / 4), sg (a.toNat % 4 * 16 + 0 / 16)] acc = _
    rw [rd_sg _ _ _ _ _ (by omega), if_neg (by decide), rd_sg _ _ _ _ _ (by omega), if_pos (by decide), rd, byte_of a _ (by simp; omega)]
  | [a, b], acc => by
    have ha := a.toNat_lt
    have hb := b.toNat_lt
    show rd 0 0 [sg (a.toNat / 4), sg (a.toNat % 4 * 16 + b.toNat / 16), sg (b.toNat % 16 * 4 + 0 / 64)] acc = _
    rw [rd_sg _ _ _ _ _ (by omega), if_neg (by decide), rd_sg _ _ _ _ _ (by omega), if_pos (by decide), rd_sg _ _ _ _ _ (by omega), if_pos (by decide), rd, byte_of a _ (by simp; omega), byte_of b _ (by simp; omega)]
    simp
  | a :: b :: c :: t, acc => by
    have ha := a.toNat_lt
    have hb := b.toNat_lt
    have hc := c.toNat_lt
    show rd 0 0 (sg (a.toNat / 4) :: sg (a.toNat % 4 * 16 + b.toNat / 16) :: sg (b.toNat % 16 * 4 + c.toNat / 64) :: sg (c.toNat % 64) :: b64L t) acc = _
    rw [rd_sg _ _ _ _ _ (by omega), if_neg (by decide), rd_sg _ _ _ _ _ (by omega), if_pos (by decide), rd_sg _ _ _ _ _ (by omega), if_pos (by decide), rd_sg _ _ _ _ _ (by omega), if_pos (by decide), byte_of a _ (by simp; omega), byte_of b _ (by simp; omega), byte_of c _ (by simp; omega),
      show ∀ x, x % 2 ^ (2 - 2) = 0 from fun x => by simp [Nat.mod_one], show 0 + 6 - 2 - 2 - 2 = 0 from rfl, rd_enc t]
    simp

/-- The reference reads what Dec reads. -/
theorem rd_case (s : ByteArray) : (dN s = 0 ∧ rd 0 0 s.data.toList [] = some (dL s)) ∨ (dN s = 3 ∧ dL s = [] ∧ ∀ r, rd 0 0 s.data.toList [] = some r → b64S r ≠ s) := by
  rcases d_case s with ⟨h1, h2, _⟩ | ⟨h1, h2, h3⟩
  · left
    refine ⟨h1, ?_⟩
    have e : s.data.toList = b64L (dL s) := by
      have := congrArg (fun x : ByteArray => x.data.toList) h2
      exact this.symm
    have := rd_enc (dL s) []
    rw [← e] at this; simpa using this
  · exact .inr ⟨h1, h2, fun r _ e => h3 r (by rw [← e]; rfl)⟩

end Go.Proofs.YtgmmbfnmojjbkaaGreatDoor
