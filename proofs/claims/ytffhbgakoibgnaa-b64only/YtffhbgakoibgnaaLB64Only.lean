import Derived.Test.YtffhbgakoibgnaaFA
import Derived.Deep.DeepCutAuto
namespace Go.Proofs.Ytffhbgakoibgnaa
open Go.RowKit
set_option linter.unusedVariables false
set_option linter.unusedSimpArgs false

theorem i64_and63 (n : Int) : bits .and .i64 n 63 = n % 64 := by
  have h63 : (BitVec.ofInt 64 63).toNat = 2 ^ 6 - 1 := by decide
  have key : (BitVec.ofInt 64 n &&& BitVec.ofInt 64 63).toNat = (n % ((2 ^ 64 : Nat) : Int)).toNat % 2 ^ 6 := by
    rw [BitVec.toNat_and, BitVec.toNat_ofInt, h63, Nat.and_two_pow_sub_one_eq_mod]
  show IntKind.i64.wrap ((BitVec.ofInt 64 n &&& BitVec.ofInt 64 63).toNat : Nat) = n % 64
  rw [key, IntKind.wrap_i64]
  omega

/-- A text of signs alone. -/
def SgT (t : ByteArray) (i : Nat) : Prop := ∃ L : List Nat, L.length = i ∧ (∀ k ∈ L, k < 64) ∧ t = ⟨(L.map sg).toArray⟩

theorem SgT.add {t : ByteArray} {i : Nat} (h : SgT t i) (k : Nat) (hk : k < 64) : SgT (t ++ ⟨#[sg k]⟩) (i + 1) := by
  obtain ⟨L, h1, h2, rfl⟩ := h
  refine ⟨L ++ [k], by simp [h1], fun j hj => ?_, ba_ext (by rw [ba_app]; simp [ba_list])⟩
  rcases List.mem_append.1 hj with hj | hj
  · exact h2 j hj
  · simp only [List.mem_singleton] at hj; rw [hj]; exact hk
theorem SgT.size {t : ByteArray} {i : Nat} (h : SgT t i) : t.size = i := by
  obtain ⟨L, h1, h2, rfl⟩ := h
  rw [← size_list, ba_list, List.length_map, h1]

theorem eight_ok (a b c d e f g h : Nat) (ha : a < 64) (hb : b < 64) (hc : c < 64) (hd : d < 64) (he : e < 64) (hf : f < 64) (hg : g < 64) (hh : h < 64) :
    b64L (three (sg a) (sg b) (sg c) (sg d) ++ three (sg e) (sg f) (sg g) (sg h)) = [sg a, sg b, sg c, sg d, sg e, sg f, sg g, sg h] := by
  have k : ∀ n, n < 64 → 0 ≤ sgI (sg n) := fun n hn => by rw [sgI_sg n hn]; omega
  rw [b64_app _ _ (by simp [three]), four_three _ _ _ _ (k a ha) (k b hb) (k c hc) (k d hd), four_three _ _ _ _ (k e he) (k f hf) (k g hg) (k h hh)]
  rfl
theorem SgT.ok {t : ByteArray} (h : SgT t 8) : dN t = 0 := by
  obtain ⟨L, h1, h2, rfl⟩ := h
  match L, h1, h2 with
  | [a, b, c, d, e, f, g, h], _, h2 =>
    have := eight_ok a b c d e f g h (h2 a (by simp)) (h2 b (by simp)) (h2 c (by simp)) (h2 d (by simp)) (h2 e (by simp)) (h2 f (by simp)) (h2 g (by simp)) (h2 h (by simp))
    show dN ⟨[sg a, sg b, sg c, sg d, sg e, sg f, sg g, sg h].toArray⟩ = 0
    rw [← this]
    exact dN_enc _

theorem sg_ext (k m : Nat) (hk : k < 64) (hm : m = k + 1) : (⟨#[65, 66, 67, 68, 69, 70, 71, 72, 73, 74, 75, 76, 77, 78, 79, 80, 81, 82, 83, 84, 85, 86, 87, 88, 89, 90, 97, 98, 99, 100, 101, 102, 103, 104, 105, 106, 107, 108, 109, 110, 111, 112, 113, 114, 115, 116, 117, 118, 119, 120, 121, 122, 48, 49, 50, 51, 52, 53, 54, 55, 56, 57, 45, 95]⟩ : ByteArray).extract k m = ⟨#[sg k]⟩ := by
  subst hm
  have h2 := sg_idx_fin ⟨k, hk⟩
  simp only at h2
  generalize hs : (⟨#[65, 66, 67, 68, 69, 70, 71, 72, 73, 74, 75, 76, 77, 78, 79, 80, 81, 82, 83, 84, 85, 86, 87, 88, 89, 90, 97, 98, 99, 100, 101, 102, 103, 104, 105, 106, 107, 108, 109, 110, 111, 112, 113, 114, 115, 116, 117, 118, 119, 120, 121, 122, 48, 49, 50, 51, 52, 53, 54, 55, 56, 57, 45, 95]⟩ : ByteArray) = s at *
  have hp : s.size = 64 := by rw [← hs]; rfl
  rcases s with ⟨a⟩
  have ha : a.size = 64 := hp
  apply ba_ext
  have h3 : a[k]! = sg k := h2
  rw [getElem!_pos a k (by omega)] at h3
  rw [← h3]
  simp only [ByteArray.data_extract]
  apply List.ext_getElem
  · simp; omega
  · intro i h1 h2
    simp at h2
    subst h2
    simp

theorem below_drewN8 {B : Nat} {w w' : World} (h : Below B w w') (n : Nat) : Below B w (w'.drewN n) := h.trans ⟨rfl, rfl, rfl, Nat.le_refl _, fun _ _ => rfl⟩

/-- Five texts stand in block g. -/
def Row5 (g : Nat) (a b c d e : ByteArray) (w : World) : Prop :=
  w.cell? ⟨g, 0, none⟩ = some (.string a) ∧ w.cell? ⟨g, 1, none⟩ = some (.string b) ∧ w.cell? ⟨g, 2, none⟩ = some (.string c) ∧ w.cell? ⟨g, 3, none⟩ = some (.string d) ∧ w.cell? ⟨g, 4, none⟩ = some (.string e)

theorem Row5.below {g : Nat} {a b c d e : ByteArray} {w w' : World} (h : Row5 g a b c d e w) (hg : g < w.heap.size) (hb : Below w.heap.size w w') : Row5 g a b c d e w' := by
  obtain ⟨h0, h1, h2, h3, h4⟩ := h
  exact ⟨by rw [hb.cell (by simpa using hg)]; exact h0, by rw [hb.cell (by simpa using hg)]; exact h1, by rw [hb.cell (by simpa using hg)]; exact h2, by rw [hb.cell (by simpa using hg)]; exact h3, by rw [hb.cell (by simpa using hg)]; exact h4⟩

theorem Row5.at {g : Nat} {a b c d e : ByteArray} {w : World} (h : Row5 g a b c d e w) (N : Nat) (ha : a.size ≤ N) (hb : b.size ≤ N) (hc : c.size ≤ N) (hd : d.size ≤ N) (he : e.size ≤ N) (i : Nat) (hi : i < 5) : ∃ x : ByteArray, x.size ≤ N ∧ w.cell? ⟨g, i, none⟩ = some (.string x) := by
  obtain ⟨h0, h1, h2, h3, h4⟩ := h
  rcases (show i = 0 ∨ i = 1 ∨ i = 2 ∨ i = 3 ∨ i = 4 by omega) with rfl | rfl | rfl | rfl | rfl
  · exact ⟨a, ha, h0⟩
  · exact ⟨b, hb, h1⟩
  · exact ⟨c, hc, h2⟩
  · exact ⟨d, hd, h3⟩
  · exact ⟨e, he, h4⟩

def OnlyRel1 (w1 : World) (tv iv : Value) (wr : World) : Prop := ∃ (t : ByteArray) (i : Nat), tv = .string t ∧ iv = .int .i64 (i : Int) ∧ i ≤ 8 ∧ SgT t i ∧ wr = w1

set_option maxRecDepth 100000 in
set_option maxHeartbeats 2000000 in
theorem b64Only_any (s : ByteArray) (n : Int) (hn0 : -9223372036854775808 ≤ n) (hn1 : n ≤ 9223372036854775807) (w : World) :
    Calls Try.prog 5 #[.string s, .int .i64 n] w fun e w' => e = .returned (.bool true) ∧ Below w.heap.size w w' := by
  go_enter Try.func5, Try.ntmps5
  go_wp2_with fail
  refine (known8_any w).mono ?_
  rintro e w1 ⟨rfl, h1⟩
  by_cases ha : s.size ≤ 300
  · have ha' : ¬ (s.size : Int) > 300 := by omega
    go_wp2_with fail
    go_loopw [6, 7] (fun tv iv wr => OnlyRel1 w1 tv iv wr) (fun _ iv _ => 8 - (intOf iv).toNat)
    case atStart => exact ⟨⟨#[]⟩, 0, rfl, rfl, by omega, ⟨[], rfl, by simp, rfl⟩, rfl⟩
    case round =>
      obtain ⟨t, i, rfl, rfl, hi, ht, rfl⟩ := hrel
      have Ht : Hid (SgT t i) := ht
      have hts := ht.size
      clear ht
      by_cases hp : i < 8
      · have hp' : (i : Int) < 8 := by omega
        go_upto_region 11 with fail
        obtain ⟨k, hk, ek⟩ : ∃ k : Nat, k < 64 ∧ bits .and .i64 (n / 2 ^ (6 * i)) 63 = (k : Int) := ⟨((n / 2 ^ (6 * i)) % 64).toNat, by omega, by rw [i64_and63]; omega⟩
        rw [ek]
        have Hk : Hid (k < 64) := hk
        clear ek
        have hk2 : (k : Int) + 1 ≤ 64 := by omega
        have hk3 : IntKind.i64.wrap ((k : Int) + 1) = (k : Int) + 1 := wrap_in _ (by omega) (by omega)
        go_wp2_with fail
        go_roundw
        case rel => exact ⟨t ++ ⟨#[sg k]⟩, i + 1, by rw [sg_ext _ _ Hk.out (by omega)], by simp, by omega, Ht.out.add k Hk.out, rfl⟩
        case measure =>
          simp [intOf]
          omega
      · have hp' : ¬ (i : Int) < 8 := by omega
        obtain rfl : i = 8 := by omega
        have l7 : 7 ≤ t.size := by omega
        have l6 : 6 ≤ t.size := by omega
        have l5 : 5 ≤ t.size := by omega
        have x7 : (t.extract 0 7).size ≤ 300 := by simp; omega
        have x6 : (t.extract 0 6).size ≤ 300 := by simp; omega
        have x5 : (t.extract 0 5).size ≤ 300 := by simp; omega
        go_wp2_with fail
        go_region
        go_wp2_with fail
        have hrow : Row5 wr.heap.size s t (t.extract 0 7) (t.extract 0 6) (t.extract 0 5) (wr.alloc (.cells #[.string s, .string t, .string (t.extract 0 7), .string (t.extract 0 6), .string (t.extract 0 5)] 9)).drew := ⟨by simp [go_sem], by simp [go_sem], by simp [go_sem], by simp [go_sem], by simp [go_sem]⟩
        have hb5 : Below w.heap.size w (wr.alloc (.cells #[.string s, .string t, .string (t.extract 0 7), .string (t.extract 0 6), .string (t.extract 0 5)] 9)).drew := (h1.alloc h1.size _).drew
        have hsz5 : wr.heap.size < (wr.alloc (.cells #[.string s, .string t, .string (t.extract 0 7), .string (t.extract 0 6), .string (t.extract 0 5)] 9)).drew.heap.size := by simp
        generalize (wr.alloc (.cells #[.string s, .string t, .string (t.extract 0 7), .string (t.extract 0 6), .string (t.extract 0 5)] 9)).drew = w5 at *
        generalize wr.heap.size = g at *
        generalize t.extract 0 7 = t7 at *
        generalize t.extract 0 6 = t6 at *
        generalize t.extract 0 5 = t5 at *
        go_loopw [10] (fun iv wr => ∃ i : Nat, iv = .int .i64 (i : Int) ∧ i ≤ 5 ∧ Below w5.heap.size w5 wr) (fun iv _ => 5 - (intOf iv).toNat)
        case atStart => exact ⟨0, rfl, by omega, Below.refl _ _⟩
        case round =>
          obtain ⟨i, rfl, hi5, hb⟩ := hrel
          have hsr := hb.size
          by_cases hp : i < 5
          · have hp' : (i : Int) < 5 := by omega
            obtain ⟨x, hx, hcell⟩ := (hrow.below hsz5 hb).at 300 (by omega) (by omega) (by omega) (by omega) (by omega) i hp
            rcases d_case x with ⟨e1, e2, e3⟩ | ⟨e1, e2, _⟩
            · have k1 := fun W => bdec_is x W (by omega) (dL x) 0 _ rfl e1 rfl
              have hdl : (dL x).length ≤ 1000 := by
                have := congrArg ByteArray.size e2
                rw [b64S_size] at this; omega
              have k3 := fun A c W h1 h2 => benc_is A (dL x) c W h1 h2 (by omega) _ rfl x e2
              obtain ⟨q, hq⟩ : ∃ q, q = x.size % 4 := ⟨_, rfl⟩
              have hr1 : ((q : Int) == 1) = false := by simp; omega
              have hr2 : (x.size : Int) % 4 = (q : Int) := by omega
              have hr3 : (x.size : Int).tmod 4 = (q : Int) := by rw [Int.tmod_eq_emod_of_nonneg (by omega)]; exact hr2
              clear e1 e2 e3 hq
              generalize dL x = dx at *
              go_wp2_with fail
              refine (k1 _).mono ?_
              rintro e w6 ⟨X, cx, rfl, hx6, hxc6, h6⟩
              have c6 := (h6.cell (p := ⟨g, i, none⟩) (by show g < _; omega)).trans hcell
              have bb6 := hb.trans (h6.mono hsr)
              have hs6 := h6.size
              have HX6 : Hid (∀ W, Below w6.heap.size w6 W → Calls Try.prog 10 #[.slice X dx.length cx] W fun e w' => e = .returned (.string x) ∧ Below W.heap.size W w') := fun W hW => k3 X cx W (hx6.up hW) hxc6
              clear hcell k1 k3 hx6
              go_wp2_with fail
              refine wp_region_held_drew (S := fun W => W.cell? ⟨g, i, none⟩ = some (.string x) ∧ Below w6.heap.size w6 W) (by kernel_rfl) (⟨c6, Below.drew (Below.refl _ _)⟩) (fun hHeld => ?_)
              refine wpAnyH_take (i := 0) (oi := { dst := some 57, op := Op.move (Operand.tmp 12), type := 26, pos := "law.go:73", after := #[], guard := none }) (v := ?vo0) rfl (by kernel_rfl) (by kernel_rfl) (by kernel_rfl) (fun _ _ _ h => h) (Or.inl ⟨by rfl, ?yo0⟩) (by assumption) ?ro0
              case yo0 => (intro w hSw; (try dsimp only at hSw); go_simp <;> with_reducible rfl)
              try simp only [Act.put, List.setIfInBounds_toArray, List.set_cons_zero, List.set_cons_succ]
              refine wpAnyH_take (i := 1) (oi := { dst := some 58, op := Op.binOp BinOp.neq 26 (Operand.tmp 57) (Operand.const (Value.int IntKind.i64 0)) 26, type := 4, pos := "law.go:73", after := #[{ on := 0, ground := Ground.data }], guard := none }) (v := ?vo1) rfl (by kernel_rfl) (by kernel_rfl) (by kernel_rfl) (fun _ _ _ h => h) (Or.inl ⟨by rfl, ?yo1⟩) (by assumption) ?ro1
              case yo1 => (intro w hSw; (try dsimp only at hSw); go_simp <;> with_reducible rfl)
              try simp only [Act.put, List.setIfInBounds_toArray, List.set_cons_zero, List.set_cons_succ]
              refine wpAnyH_take (i := 2) (oi := { dst := some 59, op := Op.move (Operand.tmp 58), type := 4, pos := "law.go:73", after := #[{ on := 1, ground := Ground.data }], guard := none }) (v := ?vo2) rfl (by kernel_rfl) (by kernel_rfl) (by kernel_rfl) (fun _ _ _ h => h) (Or.inl ⟨by rfl, ?yo2⟩) (by assumption) ?ro2
              case yo2 => (intro w hSw; (try dsimp only at hSw); go_simp <;> with_reducible rfl)
              try simp only [Act.put, List.setIfInBounds_toArray, List.set_cons_zero, List.set_cons_succ]
              refine wpAnyH_take (i := 3) (oi := { dst := some 60, op := Op.move (Operand.tmp 12), type := 26, pos := "law.go:73", after := #[{ on := 2, ground := Ground.guard }], guard := some (2, true) }) (v := undef) rfl (by kernel_rfl) (by kernel_rfl) (by kernel_rfl) (fun _ _ _ h => h) (Or.inr ⟨by rfl, rfl⟩) (by assumption) ?_
              try simp only [Act.put, List.setIfInBounds_toArray, List.set_cons_zero, List.set_cons_succ]
              refine wpAnyH_take (i := 4) (oi := { dst := some 61, op := Op.binOp BinOp.neq 26 (Operand.tmp 60) (Operand.const (Value.int IntKind.i64 3)) 26, type := 4, pos := "law.go:73", after := #[{ on := 3, ground := Ground.data }, { on := 2, ground := Ground.guard }], guard := some (2, true) }) (v := undef) rfl (by kernel_rfl) (by kernel_rfl) (by kernel_rfl) (fun _ _ _ h => h) (Or.inr ⟨by rfl, rfl⟩) (by assumption) ?_
              try simp only [Act.put, List.setIfInBounds_toArray, List.set_cons_zero, List.set_cons_succ]
              refine wpAnyH_take (i := 5) (oi := { dst := some 62, op := Op.pick (Operand.tmp 59) (Operand.tmp 61) (Operand.const (Value.bool false)), type := 4, pos := "law.go:73", after := #[{ on := 2, ground := Ground.data }, { on := 4, ground := Ground.data }], guard := none }) (v := ?vo5) rfl (by kernel_rfl) (by kernel_rfl) (by kernel_rfl) (fun _ _ _ h => h) (Or.inl ⟨by rfl, ?yo5⟩) (by assumption) ?ro5
              case yo5 => (intro w hSw; (try dsimp only at hSw); go_simp <;> with_reducible rfl)
              try simp only [Act.put, List.setIfInBounds_toArray, List.set_cons_zero, List.set_cons_succ]
              refine wpAnyH_take (i := 6) (oi := { dst := some 63, op := Op.move (Operand.tmp 62), type := 4, pos := "law.go:73", after := #[{ on := 5, ground := Ground.data }, { on := 2, ground := Ground.chain }], guard := none }) (v := ?vo6) rfl (by kernel_rfl) (by kernel_rfl) (by kernel_rfl) (fun _ _ _ h => h) (Or.inl ⟨by rfl, ?yo6⟩) (by assumption) ?ro6
              case yo6 => (intro w hSw; (try dsimp only at hSw); go_simp <;> with_reducible rfl)
              try simp only [Act.put, List.setIfInBounds_toArray, List.set_cons_zero, List.set_cons_succ]
              refine wpAnyH_take (i := 7) (oi := { dst := some 64, op := Op.move (Operand.tmp 12), type := 26, pos := "law.go:73", after := #[{ on := 6, ground := Ground.guard }], guard := some (6, false) }) (v := ?vo7) rfl (by kernel_rfl) (by kernel_rfl) (by kernel_rfl) (fun _ _ _ h => h) (Or.inl ⟨by rfl, ?yo7⟩) (by assumption) ?ro7
              case yo7 => (intro w hSw; (try dsimp only at hSw); go_simp <;> with_reducible rfl)
              try simp only [Act.put, List.setIfInBounds_toArray, List.set_cons_zero, List.set_cons_succ]
              refine wpAnyH_take (i := 8) (oi := { dst := some 65, op := Op.binOp BinOp.eql 26 (Operand.tmp 64) (Operand.const (Value.int IntKind.i64 0)) 26, type := 4, pos := "law.go:73", after := #[{ on := 7, ground := Ground.data }, { on := 6, ground := Ground.guard }], guard := some (6, false) }) (v := ?vo8) rfl (by kernel_rfl) (by kernel_rfl) (by kernel_rfl) (fun _ _ _ h => h) (Or.inl ⟨by rfl, ?yo8⟩) (by assumption) ?ro8
              case yo8 => (intro w hSw; (try dsimp only at hSw); go_simp <;> with_reducible rfl)
              try simp only [Act.put, List.setIfInBounds_toArray, List.set_cons_zero, List.set_cons_succ]
              refine wpAnyH_take (i := 9) (oi := { dst := some 66, op := Op.move (Operand.tmp 65), type := 4, pos := "law.go:73", after := #[{ on := 8, ground := Ground.data }, { on := 6, ground := Ground.chain }, { on := 6, ground := Ground.guard }], guard := some (6, false) }) (v := ?vo9) rfl (by kernel_rfl) (by kernel_rfl) (by kernel_rfl) (fun _ _ _ h => h) (Or.inl ⟨by rfl, ?yo9⟩) (by assumption) ?ro9
              case yo9 => (intro w hSw; (try dsimp only at hSw); go_simp <;> with_reducible rfl)
              try simp only [Act.put, List.setIfInBounds_toArray, List.set_cons_zero, List.set_cons_succ]
              refine wpAnyH_take (i := 10) (oi := { dst := some 67, op := Op.move (Operand.tmp 11), type := 22, pos := "law.go:73", after := #[{ on := 9, ground := Ground.guard }], guard := some (9, true) }) (v := ?vo10) rfl (by kernel_rfl) (by kernel_rfl) (by kernel_rfl) (fun _ _ _ h => h) (Or.inl ⟨by rfl, ?yo10⟩) (by assumption) ?ro10
              case yo10 => (intro w hSw; (try dsimp only at hSw); go_simp <;> with_reducible rfl)
              try simp only [Act.put, List.setIfInBounds_toArray, List.set_cons_zero, List.set_cons_succ]
              refine wpAnyH_take (i := 12) (oi := { dst := some 69, op := Op.move (Operand.tmp 9), type := 25, pos := "law.go:73", after := #[{ on := 9, ground := Ground.guard }], guard := some (9, true) }) (v := ?vo12) rfl (by kernel_rfl) (by kernel_rfl) (by kernel_rfl) (fun _ _ _ h => h) (Or.inl ⟨by rfl, ?yo12⟩) (by assumption) ?ro12
              case yo12 => (intro w hSw; (try dsimp only at hSw); go_simp <;> with_reducible rfl)
              try simp only [Act.put, List.setIfInBounds_toArray, List.set_cons_zero, List.set_cons_succ]
              refine wpAnyH_take (i := 13) (oi := { dst := some 70, op := Op.move (Operand.tmp 10), type := 3, pos := "law.go:73", after := #[{ on := 9, ground := Ground.guard }], guard := some (9, true) }) (v := ?vo13) rfl (by kernel_rfl) (by kernel_rfl) (by kernel_rfl) (fun _ _ _ h => h) (Or.inl ⟨by rfl, ?yo13⟩) (by assumption) ?ro13
              case yo13 => (intro w hSw; (try dsimp only at hSw); go_simp <;> with_reducible rfl)
              try simp only [Act.put, List.setIfInBounds_toArray, List.set_cons_zero, List.set_cons_succ]
              refine wpAnyH_take (i := 14) (oi := { dst := some 71, op := Op.indexAddr 25 (Operand.tmp 69) (Operand.tmp 70), type := 0, pos := "law.go:73", after := #[{ on := 12, ground := Ground.data }, { on := 13, ground := Ground.data }, { on := 9, ground := Ground.guard }], guard := some (9, true) }) (v := ?vo14) rfl (by kernel_rfl) (by kernel_rfl) (by kernel_rfl) (fun _ _ _ h => h) (Or.inl ⟨by rfl, ?yo14⟩) (by assumption) ?ro14
              case yo14 => (intro w hSw; (try dsimp only at hSw); go_simp <;> with_reducible rfl)
              try simp only [Act.put, List.setIfInBounds_toArray, List.set_cons_zero, List.set_cons_succ]
              refine wpAnyH_take (i := 15) (oi := { dst := some 72, op := Op.load 9 (Operand.tmp 71), type := 9, pos := "law.go:73", after := #[{ on := 14, ground := Ground.data }, { on := 9, ground := Ground.guard }], guard := some (9, true) }) (v := ?vo15) rfl (by kernel_rfl) (by kernel_rfl) (by kernel_rfl) (fun _ _ _ h => h) (Or.inl ⟨by rfl, ?yo15⟩) (by assumption) ?ro15
              case yo15 => (intro w hSw; (try dsimp only at hSw); go_simp <;> with_reducible rfl)
              try simp only [Act.put, List.setIfInBounds_toArray, List.set_cons_zero, List.set_cons_succ]
              refine wpAnyH_ready (rs := [11]) (by kernel_rfl) (by simp) (AllReadyH.cons (o := { dst := some 68, op := Op.call { callee := Callee.value (Operand.func 10), args := #[Operand.tmp 67], argTypes := #[22] }, type := 9, pos := "law.go:73", after := #[{ on := 10, ground := Ground.data }, { on := 9, ground := Ground.chain }, { on := 9, ground := Ground.guard }], guard := some (9, true) }) rfl (fun K hK => ?_) AllReadyH.nil)
              go_simp
              refine (HX6.out _ (And.right hHeld)).mono ?_
              rintro e w8 ⟨rfl, h8'⟩
              have h8 : Below w6.heap.size w6 w8 := Below.trans (And.right hHeld) (h8'.mono (Below.size (And.right hHeld)))
              have c8 := (h8.cell (p := ⟨g, i, none⟩) (by show g < _; omega)).trans c6
              go_wp2_with fail
              refine hK.out _ _ (⟨c8, h8⟩) (fun hHeld => ?_)
              clear hK K
              try simp only [Act.put, List.setIfInBounds_toArray, List.set_cons_zero, List.set_cons_succ]
              refine wpAnyH_take (i := 16) (oi := { dst := some 73, op := Op.binOp BinOp.neq 9 (Operand.tmp 68) (Operand.tmp 72) 9, type := 4, pos := "law.go:73", after := #[{ on := 11, ground := Ground.data }, { on := 15, ground := Ground.data }, { on := 9, ground := Ground.guard }], guard := some (9, true) }) (v := ?vo16) rfl (by kernel_rfl) (by kernel_rfl) (by kernel_rfl) (fun _ _ _ h => h) (Or.inl ⟨by rfl, ?yo16⟩) (by assumption) ?ro16
              case yo16 => (intro w hSw; (try dsimp only at hSw); go_simp <;> with_reducible rfl)
              try simp only [Act.put, List.setIfInBounds_toArray, List.set_cons_zero, List.set_cons_succ]
              refine wpAnyH_take (i := 17) (oi := { dst := some 74, op := Op.pick (Operand.tmp 66) (Operand.tmp 73) (Operand.const (Value.bool false)), type := 4, pos := "law.go:73", after := #[{ on := 9, ground := Ground.data }, { on := 16, ground := Ground.data }, { on := 6, ground := Ground.guard }], guard := some (6, false) }) (v := ?vo17) rfl (by kernel_rfl) (by kernel_rfl) (by kernel_rfl) (fun _ _ _ h => h) (Or.inl ⟨by rfl, ?yo17⟩) (by assumption) ?ro17
              case yo17 => (intro w hSw; (try dsimp only at hSw); go_simp <;> with_reducible rfl)
              try simp only [Act.put, List.setIfInBounds_toArray, List.set_cons_zero, List.set_cons_succ]
              refine wpAnyH_take (i := 18) (oi := { dst := some 75, op := Op.pick (Operand.tmp 63) (Operand.const (Value.bool true)) (Operand.tmp 74), type := 4, pos := "law.go:73", after := #[{ on := 6, ground := Ground.data }, { on := 17, ground := Ground.data }], guard := none }) (v := ?vo18) rfl (by kernel_rfl) (by kernel_rfl) (by kernel_rfl) (fun _ _ _ h => h) (Or.inl ⟨by rfl, ?yo18⟩) (by assumption) ?ro18
              case yo18 => (intro w hSw; (try dsimp only at hSw); go_simp <;> with_reducible rfl)
              try simp only [Act.put, List.setIfInBounds_toArray, List.set_cons_zero, List.set_cons_succ]
              refine wpAnyH_take (i := 19) (oi := { dst := some 76, op := Op.move (Operand.tmp 75), type := 4, pos := "law.go:73", after := #[{ on := 18, ground := Ground.data }, { on := 11, ground := Ground.chain }], guard := none }) (v := ?vo19) rfl (by kernel_rfl) (by kernel_rfl) (by kernel_rfl) (fun _ _ _ h => h) (Or.inl ⟨by rfl, ?yo19⟩) (by assumption) ?ro19
              case yo19 => (intro w hSw; (try dsimp only at hSw); go_simp <;> with_reducible rfl)
              try simp only [Act.put, List.setIfInBounds_toArray, List.set_cons_zero, List.set_cons_succ]
              refine wpAnyH_take (i := 20) (oi := { dst := some 77, op := Op.move (Operand.tmp 12), type := 26, pos := "law.go:73", after := #[{ on := 19, ground := Ground.guard }], guard := some (19, false) }) (v := ?vo20) rfl (by kernel_rfl) (by kernel_rfl) (by kernel_rfl) (fun _ _ _ h => h) (Or.inl ⟨by rfl, ?yo20⟩) (by assumption) ?ro20
              case yo20 => (intro w hSw; (try dsimp only at hSw); go_simp <;> with_reducible rfl)
              try simp only [Act.put, List.setIfInBounds_toArray, List.set_cons_zero, List.set_cons_succ]
              refine wpAnyH_take (i := 21) (oi := { dst := some 78, op := Op.binOp BinOp.neq 26 (Operand.tmp 77) (Operand.const (Value.int IntKind.i64 0)) 26, type := 4, pos := "law.go:73", after := #[{ on := 20, ground := Ground.data }, { on := 19, ground := Ground.guard }], guard := some (19, false) }) (v := ?vo21) rfl (by kernel_rfl) (by kernel_rfl) (by kernel_rfl) (fun _ _ _ h => h) (Or.inl ⟨by rfl, ?yo21⟩) (by assumption) ?ro21
              case yo21 => (intro w hSw; (try dsimp only at hSw); go_simp <;> with_reducible rfl)
              try simp only [Act.put, List.setIfInBounds_toArray, List.set_cons_zero, List.set_cons_succ]
              refine wpAnyH_take (i := 22) (oi := { dst := some 79, op := Op.move (Operand.tmp 78), type := 4, pos := "law.go:73", after := #[{ on := 21, ground := Ground.data }, { on := 19, ground := Ground.chain }, { on := 19, ground := Ground.guard }], guard := some (19, false) }) (v := ?vo22) rfl (by kernel_rfl) (by kernel_rfl) (by kernel_rfl) (fun _ _ _ h => h) (Or.inl ⟨by rfl, ?yo22⟩) (by assumption) ?ro22
              case yo22 => (intro w hSw; (try dsimp only at hSw); go_simp <;> with_reducible rfl)
              try simp only [Act.put, List.setIfInBounds_toArray, List.set_cons_zero, List.set_cons_succ]
              refine wpAnyH_take (i := 23) (oi := { dst := some 80, op := Op.move (Operand.tmp 11), type := 22, pos := "law.go:73", after := #[{ on := 22, ground := Ground.guard }], guard := some (22, true) }) (v := undef) rfl (by kernel_rfl) (by kernel_rfl) (by kernel_rfl) (fun _ _ _ h => h) (Or.inr ⟨by rfl, rfl⟩) (by assumption) ?_
              try simp only [Act.put, List.setIfInBounds_toArray, List.set_cons_zero, List.set_cons_succ]
              refine wpAnyH_take (i := 24) (oi := { dst := some 81, op := Op.call { callee := Callee.builtin Builtin.len, args := #[Operand.tmp 80], argTypes := #[22] }, type := 3, pos := "law.go:73", after := #[{ on := 23, ground := Ground.data }, { on := 22, ground := Ground.guard }], guard := some (22, true) }) (v := undef) rfl (by kernel_rfl) (by kernel_rfl) (by kernel_rfl) (fun _ _ _ h => h) (Or.inr ⟨by rfl, rfl⟩) (by assumption) ?_
              try simp only [Act.put, List.setIfInBounds_toArray, List.set_cons_zero, List.set_cons_succ]
              refine wpAnyH_take (i := 25) (oi := { dst := some 82, op := Op.binOp BinOp.gtr 3 (Operand.tmp 81) (Operand.const (Value.int IntKind.i64 0)) 3, type := 4, pos := "law.go:73", after := #[{ on := 24, ground := Ground.data }, { on := 22, ground := Ground.guard }], guard := some (22, true) }) (v := undef) rfl (by kernel_rfl) (by kernel_rfl) (by kernel_rfl) (fun _ _ _ h => h) (Or.inr ⟨by rfl, rfl⟩) (by assumption) ?_
              try simp only [Act.put, List.setIfInBounds_toArray, List.set_cons_zero, List.set_cons_succ]
              refine wpAnyH_take (i := 26) (oi := { dst := some 83, op := Op.pick (Operand.tmp 79) (Operand.tmp 82) (Operand.const (Value.bool false)), type := 4, pos := "law.go:73", after := #[{ on := 22, ground := Ground.data }, { on := 25, ground := Ground.data }, { on := 19, ground := Ground.guard }], guard := some (19, false) }) (v := ?vo26) rfl (by kernel_rfl) (by kernel_rfl) (by kernel_rfl) (fun _ _ _ h => h) (Or.inl ⟨by rfl, ?yo26⟩) (by assumption) ?ro26
              case yo26 => (intro w hSw; (try dsimp only at hSw); go_simp <;> with_reducible rfl)
              try simp only [Act.put, List.setIfInBounds_toArray, List.set_cons_zero, List.set_cons_succ]
              refine wpAnyH_take (i := 27) (oi := { dst := some 84, op := Op.pick (Operand.tmp 76) (Operand.const (Value.bool true)) (Operand.tmp 83), type := 4, pos := "law.go:73", after := #[{ on := 19, ground := Ground.data }, { on := 26, ground := Ground.data }], guard := none }) (v := ?vo27) rfl (by kernel_rfl) (by kernel_rfl) (by kernel_rfl) (fun _ _ _ h => h) (Or.inl ⟨by rfl, ?yo27⟩) (by assumption) ?ro27
              case yo27 => (intro w hSw; (try dsimp only at hSw); go_simp <;> with_reducible rfl)
              try simp only [Act.put, List.setIfInBounds_toArray, List.set_cons_zero, List.set_cons_succ]
              refine wpAnyH_take (i := 28) (oi := { dst := some 85, op := Op.move (Operand.tmp 84), type := 4, pos := "law.go:73", after := #[{ on := 27, ground := Ground.data }, { on := 22, ground := Ground.chain }], guard := none }) (v := ?vo28) rfl (by kernel_rfl) (by kernel_rfl) (by kernel_rfl) (fun _ _ _ h => h) (Or.inl ⟨by rfl, ?yo28⟩) (by assumption) ?ro28
              case yo28 => (intro w hSw; (try dsimp only at hSw); go_simp <;> with_reducible rfl)
              try simp only [Act.put, List.setIfInBounds_toArray, List.set_cons_zero, List.set_cons_succ]
              refine wpAnyH_take (i := 29) (oi := { dst := some 86, op := Op.move (Operand.tmp 9), type := 25, pos := "law.go:73", after := #[{ on := 28, ground := Ground.guard }], guard := some (28, false) }) (v := ?vo29) rfl (by kernel_rfl) (by kernel_rfl) (by kernel_rfl) (fun _ _ _ h => h) (Or.inl ⟨by rfl, ?yo29⟩) (by assumption) ?ro29
              case yo29 => (intro w hSw; (try dsimp only at hSw); go_simp <;> with_reducible rfl)
              try simp only [Act.put, List.setIfInBounds_toArray, List.set_cons_zero, List.set_cons_succ]
              refine wpAnyH_take (i := 30) (oi := { dst := some 87, op := Op.move (Operand.tmp 10), type := 3, pos := "law.go:73", after := #[{ on := 28, ground := Ground.guard }], guard := some (28, false) }) (v := ?vo30) rfl (by kernel_rfl) (by kernel_rfl) (by kernel_rfl) (fun _ _ _ h => h) (Or.inl ⟨by rfl, ?yo30⟩) (by assumption) ?ro30
              case yo30 => (intro w hSw; (try dsimp only at hSw); go_simp <;> with_reducible rfl)
              try simp only [Act.put, List.setIfInBounds_toArray, List.set_cons_zero, List.set_cons_succ]
              refine wpAnyH_take (i := 31) (oi := { dst := some 88, op := Op.indexAddr 25 (Operand.tmp 86) (Operand.tmp 87), type := 0, pos := "law.go:73", after := #[{ on := 29, ground := Ground.data }, { on := 30, ground := Ground.data }, { on := 28, ground := Ground.guard }], guard := some (28, false) }) (v := ?vo31) rfl (by kernel_rfl) (by kernel_rfl) (by kernel_rfl) (fun _ _ _ h => h) (Or.inl ⟨by rfl, ?yo31⟩) (by assumption) ?ro31
              case yo31 => (intro w hSw; (try dsimp only at hSw); go_simp <;> with_reducible rfl)
              try simp only [Act.put, List.setIfInBounds_toArray, List.set_cons_zero, List.set_cons_succ]
              refine wpAnyH_take (i := 32) (oi := { dst := some 89, op := Op.load 9 (Operand.tmp 88), type := 9, pos := "law.go:73", after := #[{ on := 31, ground := Ground.data }, { on := 28, ground := Ground.guard }], guard := some (28, false) }) (v := ?vo32) rfl (by kernel_rfl) (by kernel_rfl) (by kernel_rfl) (fun _ _ _ h => h) (Or.inl ⟨by rfl, ?yo32⟩) (by assumption) ?ro32
              case yo32 => (intro w hSw; (try dsimp only at hSw); go_simp <;> with_reducible rfl)
              try simp only [Act.put, List.setIfInBounds_toArray, List.set_cons_zero, List.set_cons_succ]
              refine wpAnyH_take (i := 33) (oi := { dst := some 90, op := Op.call { callee := Callee.builtin Builtin.len, args := #[Operand.tmp 89], argTypes := #[9] }, type := 3, pos := "law.go:73", after := #[{ on := 32, ground := Ground.data }, { on := 28, ground := Ground.guard }], guard := some (28, false) }) (v := ?vo33) rfl (by kernel_rfl) (by kernel_rfl) (by kernel_rfl) (fun _ _ _ h => h) (Or.inl ⟨by rfl, ?yo33⟩) (by assumption) ?ro33
              case yo33 => (intro w hSw; (try dsimp only at hSw); go_simp <;> with_reducible rfl)
              try simp only [Act.put, List.setIfInBounds_toArray, List.set_cons_zero, List.set_cons_succ]
              refine wpAnyH_take (i := 34) (oi := { dst := some 91, op := Op.binOp BinOp.rem 3 (Operand.tmp 90) (Operand.const (Value.int IntKind.i64 4)) 3, type := 3, pos := "law.go:73", after := #[{ on := 33, ground := Ground.data }, { on := 28, ground := Ground.guard }], guard := some (28, false) }) (v := ?vo34) rfl (by kernel_rfl) (by kernel_rfl) (by kernel_rfl) (fun _ _ _ h => h) (Or.inl ⟨by rfl, ?yo34⟩) (by assumption) ?ro34
              case yo34 => (intro w hSw; (try dsimp only at hSw); go_simp <;> with_reducible rfl)
              try simp only [Act.put, List.setIfInBounds_toArray, List.set_cons_zero, List.set_cons_succ]
              refine wpAnyH_take (i := 35) (oi := { dst := some 92, op := Op.binOp BinOp.eql 3 (Operand.tmp 91) (Operand.const (Value.int IntKind.i64 1)) 3, type := 4, pos := "law.go:73", after := #[{ on := 34, ground := Ground.data }, { on := 28, ground := Ground.guard }], guard := some (28, false) }) (v := ?vo35) rfl (by kernel_rfl) (by kernel_rfl) (by kernel_rfl) (fun _ _ _ h => h) (Or.inl ⟨by rfl, ?yo35⟩) (by assumption) ?ro35
              case yo35 => (intro w hSw; (try dsimp only at hSw); go_simp <;> with_reducible rfl)
              try simp only [Act.put, List.setIfInBounds_toArray, List.set_cons_zero, List.set_cons_succ]
              refine wpAnyH_take (i := 36) (oi := { dst := some 93, op := Op.move (Operand.tmp 92), type := 4, pos := "law.go:73", after := #[{ on := 35, ground := Ground.data }, { on := 28, ground := Ground.chain }, { on := 28, ground := Ground.guard }], guard := some (28, false) }) (v := ?vo36) rfl (by kernel_rfl) (by kernel_rfl) (by kernel_rfl) (fun _ _ _ h => h) (Or.inl ⟨by rfl, ?yo36⟩) (by assumption) ?ro36
              case yo36 => (intro w hSw; (try dsimp only at hSw); go_simp <;> with_reducible rfl)
              try simp only [Act.put, List.setIfInBounds_toArray, List.set_cons_zero, List.set_cons_succ]
              refine wpAnyH_take (i := 37) (oi := { dst := some 94, op := Op.move (Operand.tmp 12), type := 26, pos := "law.go:73", after := #[{ on := 36, ground := Ground.guard }], guard := some (36, true) }) (v := undef) rfl (by kernel_rfl) (by kernel_rfl) (by kernel_rfl) (fun _ _ _ h => h) (Or.inr ⟨by rfl, rfl⟩) (by assumption) ?_
              try simp only [Act.put, List.setIfInBounds_toArray, List.set_cons_zero, List.set_cons_succ]
              refine wpAnyH_take (i := 38) (oi := { dst := some 95, op := Op.binOp BinOp.eql 26 (Operand.tmp 94) (Operand.const (Value.int IntKind.i64 0)) 26, type := 4, pos := "law.go:73", after := #[{ on := 37, ground := Ground.data }, { on := 36, ground := Ground.guard }], guard := some (36, true) }) (v := undef) rfl (by kernel_rfl) (by kernel_rfl) (by kernel_rfl) (fun _ _ _ h => h) (Or.inr ⟨by rfl, rfl⟩) (by assumption) ?_
              try simp only [Act.put, List.setIfInBounds_toArray, List.set_cons_zero, List.set_cons_succ]
              refine wpAnyH_take (i := 39) (oi := { dst := some 96, op := Op.pick (Operand.tmp 93) (Operand.tmp 95) (Operand.const (Value.bool false)), type := 4, pos := "law.go:73", after := #[{ on := 36, ground := Ground.data }, { on := 38, ground := Ground.data }, { on := 28, ground := Ground.guard }], guard := some (28, false) }) (v := ?vo39) rfl (by kernel_rfl) (by kernel_rfl) (by kernel_rfl) (fun _ _ _ h => h) (Or.inl ⟨by rfl, ?yo39⟩) (by assumption) ?ro39
              case yo39 => (intro w hSw; (try dsimp only at hSw); go_simp <;> with_reducible rfl)
              try simp only [Act.put, List.setIfInBounds_toArray, List.set_cons_zero, List.set_cons_succ]
              refine wpAnyH_take (i := 40) (oi := { dst := some 97, op := Op.pick (Operand.tmp 85) (Operand.const (Value.bool true)) (Operand.tmp 96), type := 4, pos := "law.go:73", after := #[{ on := 28, ground := Ground.data }, { on := 39, ground := Ground.data }], guard := none }) (v := ?vo40) rfl (by kernel_rfl) (by kernel_rfl) (by kernel_rfl) (fun _ _ _ h => h) (Or.inl ⟨by rfl, ?yo40⟩) (by assumption) ?ro40
              case yo40 => (intro w hSw; (try dsimp only at hSw); go_simp <;> with_reducible rfl)
              try simp only [Act.put, List.setIfInBounds_toArray, List.set_cons_zero, List.set_cons_succ]
              refine wpAnyH_done (by kernel_rfl) ?_ _
              have bb8 : Below w5.heap.size w5 w8 := bb6.trans (h8.mono (by omega))
              clear h8 h8' hHeld c6 c8 HX6
              go_wp2_with fail
              go_roundw
              case rel => exact ⟨i + 1, by simp, by omega, bb8⟩
              case measure =>
                simp [intOf]
                omega
            · have k1 := fun W => bdec_is x W (by omega) [] 3 0 e2 e1 rfl
              clear e1 e2
              go_wp2_with fail
              refine (k1 _).mono ?_
              rintro e w6 ⟨X, cx, rfl, hx6, hxc6, h6⟩
              have c6 := (h6.cell (p := ⟨g, i, none⟩) (by show g < _; omega)).trans hcell
              have bb6 := hb.trans (h6.mono hsr)
              clear hcell k1 hx6
              obtain ⟨q, hq⟩ : ∃ q, q = x.size % 4 := ⟨_, rfl⟩
              have hr2 : (x.size : Int) % 4 = (q : Int) := by omega
              have hr3 : (x.size : Int).tmod 4 = (q : Int) := by rw [Int.tmod_eq_emod_of_nonneg (by omega)]; exact hr2
              clear hq
              by_cases hq1 : q = 1
              · have hr1 : ((q : Int) == 1) = true := by simp [hq1]
                clear hq1
                go_wp2_with fail
                go_quiet (fail)
                go_wp2_with fail
                go_roundw
                case rel => exact ⟨i + 1, by simp, by omega, below_drewN8 bb6 _⟩
                case measure =>
                  simp [intOf]
                  omega
              · have hr1 : ((q : Int) == 1) = false := by simp; omega
                clear hq1
                go_wp2_with fail
                go_quiet (fail)
                go_wp2_with fail
                go_roundw
                case rel => exact ⟨i + 1, by simp, by omega, below_drewN8 bb6 _⟩
                case measure =>
                  simp [intOf]
                  omega
          · have hp' : ¬ (i : Int) < 5 := by omega
            have k1 := fun W => bdec_is t W (by omega) (dL t) 0 _ rfl Ht.out.ok rfl
            go_wp2_with fail
            refine (k1 _).mono ?_
            rintro e w6 ⟨X, cx, rfl, hx6, hxc6, h6⟩
            clear hx6 k1
            go_wp2_with fail
            go_ret
            exact ⟨rfl, hb5.trans ((hb.trans (h6.mono hsr)).mono hb5.size)⟩
  · have ha' : (s.size : Int) > 300 := by omega
    go_wp2_with fail
    go_ret
    exact ⟨rfl, h1⟩

end Go.Proofs.Ytffhbgakoibgnaa
