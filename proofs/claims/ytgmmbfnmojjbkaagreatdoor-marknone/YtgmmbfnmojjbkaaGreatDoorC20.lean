import Derived.Test.YtgmmbfnmojjbkaaGreatDoorCY
import Derived.Test.YtgmmbfnmojjbkaaGreatDoorW25
import Derived.Test.YtgmmbfnmojjbkaaGreatDoorC12
import Derived.Test.YtgmmbfnmojjbkaaGreatDoorCZ
namespace Go.Proofs.YtgmmbfnmojjbkaaGreatDoor
open Go.RowKit
set_option linter.unusedVariables false
set_option linter.unusedSimpArgs false

set_option maxRecDepth 20000 in
set_option maxHeartbeats 1000000 in
/-- The order of two that are none. -/
theorem ord00 (w : World) : Calls Tryz.prog 35 #[zeroV, zeroV] w fun e w' => e = .returned (.int .i64 0) ∧ Below w.heap.size w w' := by
  have z1 : cmpI 0 0 = 0 := by simp [cmpI]
  have z2 : cmpS ⟨#[]⟩ ⟨#[]⟩ = 0 := by unfold cmpS; exact bytes_self _
  go_enter Tryz.func35, Tryz.ntmps35
  go_wp2_with fail
  refine (sign_cmp 0 0 _).mono ?_
  rintro e w' ⟨rfl, rfl⟩
  rw [z1]
  go_wp2_with fail
  refine (sign_cmp 0 0 _).mono ?_
  rintro e w' ⟨rfl, rfl⟩
  rw [z1]
  go_wp2_with fail
  refine (sign_any false false _).mono ?_
  rintro e w' ⟨rfl, rfl⟩
  rw [show signB false false = 0 from rfl]
  go_wp2_with fail
  obtain ⟨w0, hw0⟩ : ∃ w0 : World, w0 = (w.alloc (.cells #[.int .i64 0, .int .i64 0, .string ⟨#[]⟩, .slice none 0 0] 24)).alloc (.cells #[.int .i64 0, .int .i64 0, .string ⟨#[]⟩, .slice none 0 0] 24) := ⟨_, rfl⟩
  have hb0 : Below w.heap.size w w0 := by rw [hw0]; exact (by repeat (first | exact Below.refl _ _ | assumption | refine below_drewN ?_ _ | refine Below.drew ?_ | refine Below.alloc ?_ (by simp <;> omega) _ | refine Below.setCell ?_ (by simp <;> omega) _))
  have hx0 : w0.cell? ⟨w.heap.size, 3, none⟩ = some (.slice none 0 0) ∧ w0.cell? ⟨w.heap.size + 1, 3, none⟩ = some (.slice none 0 0) ∧ w.heap.size + 1 < w0.heap.size := by rw [hw0]; simp [go_sem]
  rw [← hw0]
  clear hw0
  obtain ⟨x1, x2, x3⟩ := hx0
  go_loopw [5, 6] (fun cv iv wr => cv = .int .i64 0 ∧ iv = .int .i64 0 ∧ w0 = wr) (fun _ _ _ => 0)
  case atStart => exact ⟨rfl, rfl, rfl⟩
  case round =>
    obtain ⟨rfl, rfl, rfl⟩ := hrel
    have hd : decide ((0 : Int) < ((0 : Nat) : Int)) = false := by simp
    go_wp2_with fail
    refine (sign_any false false _).mono ?_
    rintro e w' ⟨rfl, rfl⟩
    rw [show signB false false = 0 from rfl]
    go_wp2_with fail
    go_ret
    exact ⟨rfl, hb0⟩

set_option maxHeartbeats 1000000 in
theorem same00 (w : World) : Calls Tryz.prog 17 #[zeroV, zeroV] w fun e w' => e = .returned (.bool true) ∧ Below w.heap.size w w' := by
  go_enter Tryz.func17, Tryz.ntmps17
  go_wp2_with fail
  refine (ord00 _).mono ?_
  rintro e w1 ⟨rfl, ho1⟩
  have hb1 : Below w.heap.size w w1 := Below.trans (b := (w.alloc _).alloc _) (by repeat (first | exact Below.refl _ _ | assumption | refine below_drewN ?_ _ | refine Below.drew ?_ | refine Below.alloc ?_ (by simp <;> omega) _ | refine Below.setCell ?_ (by simp <;> omega) _)) (ho1.mono (by simp; omega))
  go_wp2_with fail
  go_ret
  exact ⟨rfl, hb1⟩

/-- The term that stands at the front of xs, or none. -/
def TkV (w : World) (r : Except Nat (Nd × Fo)) (v : Value) : Prop :=
  (∀ er, r = .error er → v = zeroV) ∧ (∀ a l, r = .ok (a, l) → may a l = true ∧ RepV w w.heap.size a l v)

theorem TkV.below {w w' : World} {r : Except Nat (Nd × Fo)} {v : Value} (h : TkV w r v) (hb : Below w.heap.size w w') : TkV w' r v :=
  ⟨h.1, fun a l e => ⟨(h.2 a l e).1, (h.2 a l e).2.keep hb.size (fun b o hb' => hb.cell hb')⟩⟩

theorem sameV {w : World} {r : Except Nat (Nd × Fo)} {v u : Value} (hv : TkV w r v) (hu : TkV w r u) :
    Calls Tryz.prog 17 #[v, u] w fun e w' => e = .returned (.bool true) ∧ Below w.heap.size w w' := by
  cases r with
  | error er => rw [hv.1 er rfl, hu.1 er rfl]; exact same00 w
  | ok y =>
    obtain ⟨a, l⟩ := y
    obtain ⟨m, r1⟩ := hv.2 a l rfl
    obtain ⟨_, r2⟩ := hu.2 a l rfl
    obtain ⟨k1, k2⟩ := may_ar a l m
    have h := refSame_any a l a l v u w.heap.size w r1 r2 (Nat.le_refl _) k1 k1 k2 k2
    rw [ordT_self] at h
    exact h

def tkR (xs : List UInt8) : Except Nat (Nd × Fo) := match tk 16 0 xs with | .error e => .error e | .ok (a, l, _, _) => .ok (a, l)
def tkNum (xs : List UInt8) : Int := match tk 16 0 xs with | .error _ => 0 | .ok (_, _, _, ys) => ((xs.length - ys.length : Nat) : Int)
def tkErr (xs : List UInt8) : Int := match tk 16 0 xs with | .error e => (e : Int) | .ok _ => 0
def oneErr (xs : List UInt8) : Int := match oneB xs with | .error e => (e : Int) | .ok _ => 0

theorem zero_val : ∃ (k n : Int) (s : ByteArray) (K : Option Addr) (len c : Nat), zeroV = .agg #[.int .i64 k, .int .i64 n, .string s, .slice K len c] := ⟨0, 0, ⟨#[]⟩, none, 0, 0, rfl⟩

theorem TakeEnd.any {w w' : World} {xs : List UInt8} {e : Ending} (h : TakeEnd w xs e w') :
    ∃ (k n : Int) (s : ByteArray) (K : Option Addr) (len c : Nat), e = .returned (.tuple #[.agg #[.int .i64 k, .int .i64 n, .string s, .slice K len c], .int .i64 (tkNum xs), .int .i64 (tkErr xs)]) ∧ Below w.heap.size w w' ∧ TkV w' (tkR xs) (.agg #[.int .i64 k, .int .i64 n, .string s, .slice K len c]) := by
  unfold tkNum tkErr tkR
  cases ht : tk 16 0 xs with
  | error er =>
    obtain ⟨h1, h2⟩ := h.1 er ht
    exact ⟨0, 0, ⟨#[]⟩, none, 0, 0, h1, h2, fun _ _ => rfl, fun a l e => by cases e⟩
  | ok y =>
    obtain ⟨a, l, k, ys⟩ := y
    obtain ⟨v, h1, h2, h3⟩ := h.2 a l k ys ht
    have hV := RepVG.toV (B := w'.heap.size) (fun b hb => hb.2) h3
    obtain ⟨hf, A, cap, b, o, rfl, hn, hA, hl⟩ := h3
    refine ⟨_, _, _, _, _, _, h1, h2, fun er e => (by cases e), fun a' l' e => ?_⟩
    injection e with e; injection e with e1 e2; subst e1 e2
    exact ⟨(tk_only ht).2.1, hV⟩

theorem OneEnd.any {w w' : World} {xs : List UInt8} {e : Ending} (h : OneEnd w xs e w') :
    ∃ (k n : Int) (s : ByteArray) (K : Option Addr) (len c : Nat), e = .returned (.tuple #[.agg #[.int .i64 k, .int .i64 n, .string s, .slice K len c], .int .i64 (oneErr xs)]) ∧ Below w.heap.size w w' ∧ TkV w' (oneB xs) (.agg #[.int .i64 k, .int .i64 n, .string s, .slice K len c]) := by
  unfold oneErr
  cases ht : oneB xs with
  | error er =>
    obtain ⟨h1, h2⟩ := h.1 er ht
    exact ⟨0, 0, ⟨#[]⟩, none, 0, 0, h1, h2, fun _ _ => rfl, fun a l e => by cases e⟩
  | ok y =>
    obtain ⟨a, l⟩ := y
    obtain ⟨v, h1, h2, h3⟩ := h.2 a l ht
    have hV := RepVG.toV (B := w'.heap.size) (fun b hb => hb.2) h3
    obtain ⟨hf, A, cap, b, o, rfl, hn, hA, hl⟩ := h3
    have hm : may a l = true := by
      unfold oneB at ht
      cases hk : tk 16 0 xs with
      | error er => rw [hk] at ht; cases ht
      | ok z =>
        obtain ⟨a', l', k, ys⟩ := z
        rw [hk] at ht
        dsimp only at ht
        split at ht
        · cases ht
        · injection ht with ht; injection ht with e1 e2; subst e1 e2; exact (tk_only hk).2.1
    refine ⟨_, _, _, _, _, _, h1, h2, fun er e => (by cases e), fun a' l' e => ?_⟩
    injection e with e; injection e with e1 e2; subst e1 e2
    exact ⟨hm, hV⟩

end Go.Proofs.YtgmmbfnmojjbkaaGreatDoor
