import Derived.Test.YtldpnhlifgkmiaaDoorR2
import Derived.Lib.ItoaMem
namespace Go.Proofs.YtldpnhlifgkmiaaDoor
open Go.RowKit
set_option linter.unusedVariables false
set_option linter.unusedSimpArgs false

/-- A number's digits and a blank. -/
def numB (n : Int) : List UInt8 := Lib.itoa n ++ [32]
/-- A node's text, without its kids'. -/
def keyH (a : Nd) : List UInt8 := numB a.kind ++ (if a.kind = 1 then numB (a.s.size : Int) ++ a.s.data.toList else if a.kind = 2 then numB a.n else [])
def keyF : Fo → List UInt8
  | .nil => []
  | .node _ _ a l r => (keyH a ++ keyF l) ++ keyF r
/-- A term's text. -/
def keyT (a : Nd) (l : Fo) : List UInt8 := keyH a ++ keyF l

theorem keyF_node (x y : Nat) (a : Nd) (l r : Fo) : keyF (.node x y a l r) = keyT a l ++ keyF r := rfl

/-- How many of the kids do not come out. -/
def skipOf (k : Int) : Nat := if k = 7 then 0 else if k = 6 then 1 else 3
def dropFo : Nat → Fo → Fo
  | 0, f => f
  | _ + 1, .nil => .nil
  | n + 1, .node _ _ _ _ r => dropFo n r

/-- What is learnt of a row of terms behind the first ones, one behind the other. -/
def learnG : Nat → Fo → List (Nd × Fo) → List (Nd × Fo)
  | _, .nil, L => L
  | n + 1, .node _ _ a l r, L => learnG n r L
  | 0, .node _ _ a l r, L => learnG 0 r (if keyT a l ∈ L.map (fun x => keyT x.1 x.2) then L else learnG (skipOf a.kind) l (L ++ [(a, l)]))
def learnT (a : Nd) (l : Fo) (L : List (Nd × Fo)) : List (Nd × Fo) := if keyT a l ∈ L.map (fun x => keyT x.1 x.2) then L else learnG (skipOf a.kind) l (L ++ [(a, l)])

theorem learnG_node (x y : Nat) (a : Nd) (l r : Fo) (L : List (Nd × Fo)) : learnG 0 (.node x y a l r) L = learnG 0 r (learnT a l L) := by rw [learnG, learnT]
theorem learnG_drop : ∀ (n : Nat) (f : Fo) (L : List (Nd × Fo)), learnG 0 (dropFo n f) L = learnG n f L
  | 0, f, L => rfl
  | n + 1, .nil, L => by simp [dropFo, learnG]
  | n + 1, .node _ _ a l r, L => by rw [dropFo, learnG_drop n r L, learnG]

theorem flen_drop : ∀ (n : Nat) (f : Fo), flen (dropFo n f) = flen f - n
  | 0, f => by simp [dropFo]
  | n + 1, .nil => by simp [dropFo, flen]
  | n + 1, .node _ _ _ _ r => by rw [dropFo, flen_drop n r, flen]; omega

/-- The terms of a list. -/
def tms (ks : List Kd) : List (Nd × Fo) := ks.map fun k => (k.a, k.l)

def nodesF : Fo → Nat
  | .nil => 0
  | .node _ _ _ l r => 1 + nodesF l + nodesF r

/-- What is learnt of a row of terms. -/
def learnL : List Kd → List (Nd × Fo) → List (Nd × Fo)
  | [], L => L
  | k :: r, L => learnL r (learnT k.a k.l L)

theorem learnL_append : ∀ (ks js : List Kd) (L : List (Nd × Fo)), learnL (ks ++ js) L = learnL js (learnL ks L)
  | [], _, _ => rfl
  | k :: r, js, L => learnL_append r js _

def nodesK : List Kd → Nat
  | [] => 0
  | k :: r => 1 + nodesF k.l + nodesK r

theorem nodesK_append : ∀ (ks js : List Kd), nodesK (ks ++ js) = nodesK ks + nodesK js
  | [], _ => by simp [nodesK]
  | k :: r, js => by simp [nodesK, nodesK_append r js]; omega


end Go.Proofs.YtldpnhlifgkmiaaDoor
