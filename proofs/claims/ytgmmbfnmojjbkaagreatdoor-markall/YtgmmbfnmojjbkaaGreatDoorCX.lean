import Derived.Test.YtgmmbfnmojjbkaaGreatDoorCL
import Derived.Test.YtgmmbfnmojjbkaaGreatDoorBY
import Derived.Laws.BitsAllLaws
import Derived.Test.YtgmmbfnmojjbkaaGreatDoorR2
import Derived.Laws.IdiomStrings
import Derived.Test.YtgmmbfnmojjbkaaGreatDoorKQ
import Derived.Laws.IdiomCopy
import Derived.Deep.RegionHeld3
namespace Go.Proofs.YtgmmbfnmojjbkaaGreatDoor
open Go.RowKit
set_option linter.unusedVariables false
set_option linter.unusedSimpArgs false

/-- The reader of package code in block rb. -/
structure RdAt (w : World) (rb : Nat) (A : Option Addr) (cap : Nat) (xs : List UInt8) (k : Nat) : Prop where
  lt : rb < w.heap.size
  c0 : w.cell? ⟨rb, 0, none⟩ = some (.slice A xs.length cap)
  c1 : w.cell? ⟨rb, 1, none⟩ = some (.int .i64 (k : Int))
  f0 : w.frozen? ⟨rb, 0, none⟩ = false
  f1 : w.frozen? ⟨rb, 1, none⟩ = false
  cap' : xs.length ≤ cap
  max' : cap ≤ maxLen

theorem RdAt.keep {w w' : World} {rb : Nat} {A : Option Addr} {cap : Nat} {xs : List UInt8} {k : Nat} (h : RdAt w rb A cap xs k) (hk : Below w.heap.size w w') : RdAt w' rb A cap xs k :=
  ⟨Nat.lt_of_lt_of_le h.lt hk.size, by rw [hk.cell h.lt]; exact h.c0, by rw [hk.cell h.lt]; exact h.c1, by rw [hk.frozen h.lt]; exact h.f0, by rw [hk.frozen h.lt]; exact h.f1, h.cap', h.max'⟩

set_option maxRecDepth 100000 in
set_option maxHeartbeats 1000000 in
theorem rbytes_short (w : World) (rb : Nat) (A : Option Addr) (cap : Nat) (xs : List UInt8) (k : Nat) (c : Nat) (cz : Int) (hcz : cz = (c : Int)) (h : RdAt w rb A cap xs k) (hc : xs.length < c) :
    Calls Tryz.prog 93 #[.pointer (some ⟨rb, 0, none⟩), .int .i64 cz] w fun e w' => e = .returned (.tuple #[.slice none 0 0, .iface 61 (.int .i64 1)]) ∧ w' = w := by
  subst hcz
  obtain ⟨h0, h1, h2, h3, h4, h5, h6⟩ := h
  unfold maxLen at h6
  go_enter Tryz.func93, Tryz.ntmps93
  go_wp2_with fail
  exact bodyPost_ret (v := .tuple #[.slice none 0 0, .iface 61 (.int .i64 1)]) (by simp [results, Tryz.results93, go_sem]) rfl ⟨rfl, rfl⟩

def RbEnd (w : World) (rb B c : Nat) (xs : List UInt8) (k : Nat) (e : Ending) (w' : World) : Prop :=
  ∃ A1 A2 cap2, e = .returned (.tuple #[.slice A1 c c, .nilIface]) ∧ Only rb w w' ∧ RdAt w' rb A2 cap2 (xs.drop c) k ∧ ByAt w' B A1 (xs.take c) ∧ ByAt w' B A2 (xs.drop c)

theorem rb_set {w : World} {rb : Nat} {A : Option Addr} {cap : Nat} {xs : List UInt8} {k B c : Nat} (h : RdAt w rb A cap xs k) (hy : ByAt w B A xs) (hB : B ≤ rb) (hc : c ≤ xs.length) (A2 : Option Addr) (hA2 : A2 = if cap = c then A else A.map (·.add c)) :
    RbEnd w rb B c xs k (.returned (.tuple #[.slice A c c, .nilIface])) (w.setCell ⟨rb, 0, none⟩ (.slice A2 (xs.length - c) (cap - c))) := by
  have ho : Only rb w (w.setCell ⟨rb, 0, none⟩ (.slice A2 (xs.length - c) (cap - c))) := Only.setCell (p := ⟨rb, 0, none⟩) (Only.refl _ _) (.inl rfl) _
  have hk : ∀ b o, b < B → (w.setCell ⟨rb, 0, none⟩ (.slice A2 (xs.length - c) (cap - c))).cell? ⟨b, o, none⟩ = w.cell? ⟨b, o, none⟩ := fun b o hb => ho.cell (by have := h.lt; simp; omega) (by simp; omega)
  have hcell : w.cell? ⟨rb, 0, none⟩ = some (.slice A xs.length cap) := h.c0
  refine ⟨A, A2, cap - c, rfl, ho, ⟨?_, ?_, ?_, ?_, ?_, ?_, ?_⟩, (hy.take c).keep (Nat.le_refl _) hk, ?_⟩
  · have := h.lt; simpa [World.setCell] using this
  · have := h.lt; simp [go_sem, h.c0, List.length_drop, this]
  · rw [World.cell?_setCell_other]
    · exact h.c1
    · intro e; injection e with _ e; omega
  · have := h.lt; simp [go_sem, h.f0, this]
  · have := h.lt; simp [go_sem, h.f1, this]
  · rw [List.length_drop]; have := h.cap'; omega
  · have := h.max'; omega
  · have hd : ByAt w B A2 (xs.drop c) := by rw [hA2]; exact hy.drop c cap hc h.cap'
    exact hd.keep (Nat.le_refl _) hk

set_option maxRecDepth 100000 in
set_option maxHeartbeats 1000000 in
theorem rbytes_ok (w : World) (rb : Nat) (A : Option Addr) (cap : Nat) (xs : List UInt8) (k B : Nat) (c : Nat) (cz : Int) (hcz : cz = (c : Int)) (h : RdAt w rb A cap xs k) (hy : ByAt w B A xs) (hB : B ≤ rb) (hc : c ≤ xs.length) :
    Calls Tryz.prog 93 #[.pointer (some ⟨rb, 0, none⟩), .int .i64 cz] w fun e w' => RbEnd w rb B c xs k e w' := by
  subst hcz
  have H := h
  obtain ⟨h0, h1, h2, h3, h4, h5, h6⟩ := h
  unfold maxLen at h6
  go_enter Tryz.func93, Tryz.ntmps93
  go_wp2_with fail
  all_goals refine bodyPost_ret (v := .tuple #[.slice A c c, .nilIface]) (by simp [results, Tryz.results93, go_sem]) rfl ?_
  · have := rb_set (c := c) H hy hB hc A (by rw [if_pos h])
    rwa [h, Nat.sub_self] at this
  · exact rb_set (c := c) H hy hB hc _ (by rw [if_neg h])

theorem i64_or_byte (a d : Nat) (ha : a < 1099511627776) (hd : d < 256) : bits .or .i64 ((a : Int) * 256) (d : Int) = ((a * 256 + d : Nat) : Int) := by
  rw [show (a : Int) * 256 = ((a * 256 : Nat) : Int) from by omega]
  show IntKind.i64.wrap ((BitVec.ofInt 64 ((a * 256 : Nat) : Int) ||| BitVec.ofInt 64 (d : Int)).toNat : Int) = _
  have e : a * 256 ||| d = a * 256 + d := by
    have := Nat.two_pow_add_eq_or_of_lt (i := 8) (b := d) (by omega) a
    rw [show 2 ^ 8 * a = a * 256 from by omega] at this
    exact this.symm
  rw [BitVec.toNat_or, ofInt_u64 _ (by omega), ofInt_u64 _ (by omega), e, IntKind.wrap_i64]
  omega

theorem unBe_snoc (xs : List UInt8) (x : UInt8) : unBe (xs ++ [x]) = unBe xs * 256 + x.toNat := by simp [unBe]
theorem unBe_take (xs : List UInt8) (i : Nat) (h : i < xs.length) : unBe (xs.take (i + 1)) = unBe (xs.take i) * 256 + (xs.getD i 0).toNat := by
  rw [List.take_succ_eq_append_getElem h, unBe_snoc]
  simp [List.getD, List.getElem?_eq_getElem h]
theorem unBe_small (xs : List UInt8) : ∀ i, i ≤ xs.length → unBe (xs.take i) < 256 ^ i
  | 0, _ => by simp [unBe]
  | i + 1, h => by
    have h1 := unBe_small xs i (by omega)
    have h2 := (xs.getD i 0).toNat_lt
    rw [unBe_take xs i (by omega), Nat.pow_succ]
    omega

def RnEnd (w : World) (rb B wide most : Nat) (xs : List UInt8) (k : Nat) (e : Ending) (w' : World) : Prop :=
  (∀ er, tkN wide most xs = .error er → e = .returned (.tuple #[.int .i64 0, .iface 61 (.int .i64 (er : Int))]) ∧ Only rb w w') ∧
  (∀ n ys, tkN wide most xs = .ok (n, ys) → ∃ A2 cap2, e = .returned (.tuple #[.int .i64 (n : Int), .nilIface]) ∧ Only rb w w' ∧ RdAt w' rb A2 cap2 ys k ∧ ByAt w' B A2 ys)

set_option maxRecDepth 100000 in
set_option maxHeartbeats 1000000 in
theorem rnum_any (w : World) (rb : Nat) (A : Option Addr) (cap : Nat) (xs : List UInt8) (k B : Nat) (wide most : Nat) (wz mz : Int) (hwz : wz = (wide : Int)) (hmz : mz = (most : Int)) (hw : wide ≤ 4) (h : RdAt w rb A cap xs k) (hy : ByAt w B A xs) (hB : B ≤ rb) :
    Calls Tryz.prog 95 #[.pointer (some ⟨rb, 0, none⟩), .int .i64 wz, .int .i64 mz] w fun e w' => RnEnd w rb B wide most xs k e w' := by
  subst hwz hmz
  by_cases hl : xs.length < wide
  · have ht : tkN wide most xs = .error 1 := by rw [tkN, if_pos hl]
    go_enter Tryz.func95, Tryz.ntmps95
    go_wp2_with fail
    refine (rbytes_short w rb A cap xs k wide _ rfl h hl).mono ?_
    rintro e w1 ⟨rfl, rfl⟩
    go_wp2_with fail
    refine bodyPost_ret (v := .tuple #[.int .i64 0, .iface 61 (.int .i64 1)]) (by simp [results, Tryz.results95, go_sem]) rfl ⟨?_, ?_⟩
    · intro er he; rw [ht] at he; injection he with he; subst he; exact ⟨rfl, Only.refl _ _⟩
    · intro n ys he; rw [ht] at he; injection he
  · have HH : Hid (¬ xs.length < wide) := hl
    go_enter Tryz.func95, Tryz.ntmps95
    go_wp2_with fail
    refine (rbytes_ok w rb A cap xs k B wide _ rfl h hy hB (by omega)).mono ?_
    rintro e w1 ⟨A1, A2, cap2, rfl, ho, hrd, hb1, hb2⟩
    have HR : Hid (RdAt w1 rb A2 cap2 (xs.drop wide) k) := hrd
    have HB2 : Hid (ByAt w1 B A2 (xs.drop wide)) := hb2
    have HB1 : Hid (ByAt w1 B A1 (xs.take wide)) := hb1
    clear hrd hb1 hb2
    go_wp2_with fail
    go_loopw [10, 24] (fun nv iv wr => ∃ (i : Nat), i ≤ wide ∧ iv = .int .i64 (i : Int) ∧ nv = .int .i64 ((unBe ((xs.take wide).take i) : Nat) : Int) ∧ wr = w1) (fun _ iv _ => wide - (intOf iv).toNat)
    case atStart => exact ⟨0, by omega, rfl, rfl, rfl⟩
    case round =>
      obtain ⟨i, hi, rfl, rfl, rfl⟩ := hrel
      by_cases hi2 : (i : Int) < (wide : Int)
      · have hd : (xs.take wide).length = wide := by rw [List.length_take]; have := HH.out; omega
        obtain ⟨bb, oo, rfl, hbb, hcc⟩ : ∃ b o, A1 = some ⟨b, o, none⟩ ∧ b < B ∧ ∀ i, i < (xs.take wide).length → wr.cell? ⟨b, o + i, none⟩ = some (.int .u8 (((xs.take wide).getD i 0).toNat : Int)) := by
          rcases HB1.out with h | h
          · rw [h] at hd; simp at hd; omega
          · exact h
        have hci := hcc i (by omega)
        clear hcc
        have hbd : ((xs.take wide).getD i 0).toNat < 256 := ((xs.take wide).getD i 0).toNat_lt
        have hun := unBe_small (xs.take wide) i (by omega)
        have hun' : unBe ((xs.take wide).take i) < 16777216 := Nat.lt_of_lt_of_le hun (Nat.le_trans (Nat.pow_le_pow_right (by decide) (show i ≤ 3 by omega)) (by decide))
        have hsn := unBe_take (xs.take wide) i (by omega)
        have Hsn : Hid (unBe ((xs.take wide).take (i + 1)) = unBe ((xs.take wide).take i) * 256 + ((xs.take wide).getD i 0).toNat) := hsn
        clear hsn hun
        generalize (xs.take wide).getD i 0 = dg at *
        obtain ⟨un, hun0⟩ : ∃ un, un = unBe ((xs.take wide).take i) := ⟨_, rfl⟩
        rw [← hun0] at hun' ⊢
        have Hun : Hid (un = unBe ((xs.take wide).take i)) := hun0
        clear hun0
        go_wp2_with fail
        go_roundw
        case rel =>
          refine ⟨i + 1, by omega, by go_num, ?_, trivial⟩
          have hor := i64_or_byte un dg.toNat (by omega) (by omega)
          have w1 : wrap64 ((un : Int) * 256) = (un : Int) * 256 := IntWalk.wrap64_in _ (by omega)
          have w2 : wrap64 ((dg.toNat : Nat) : Int) = ((dg.toNat : Nat) : Int) := IntWalk.wrap64_in _ (by omega)
          rw [Hsn.out, ← Hun.out]
          first | rw [hor] | rw [w1, w2, hor] | rw [w1, hor] | rw [w2, hor]
        case measure => simp [intOf]; omega
      · obtain rfl : i = wide := by omega
        have ht : tkN i most xs = if most < unBe (xs.take i) then .error 3 else .ok (unBe (xs.take i), xs.drop i) := by rw [tkN, if_neg HH.out]
        have hun := unBe_small (xs.take i) i (by rw [List.length_take]; have := HH.out; omega)
        have hun' : unBe ((xs.take i).take i) < 4294967296 := Nat.lt_of_lt_of_le hun (Nat.le_trans (Nat.pow_le_pow_right (by decide) (show i ≤ 4 by omega)) (by decide))
        rw [List.take_take, Nat.min_self] at hun' ⊢
        have HT : Hid (tkN i most xs = if most < unBe (xs.take i) then .error 3 else .ok (unBe (xs.take i), xs.drop i)) := ht
        clear ht hun
        obtain ⟨un, hun0⟩ : ∃ un, un = unBe (xs.take i) := ⟨_, rfl⟩
        rw [← hun0] at hun' ⊢
        have Hun : Hid (un = unBe (xs.take i)) := hun0
        clear hun0
        by_cases hm : most < un
        · go_wp2_with fail
          refine bodyPost_ret (v := .tuple #[.int .i64 0, .iface 61 (.int .i64 3)]) (by simp [results, Tryz.results95, go_sem]) rfl ⟨?_, ?_⟩
          · intro er he; rw [HT.out, if_pos (by rw [← Hun.out]; exact hm)] at he; injection he with he; subst he; exact ⟨rfl, ho⟩
          · intro n ys he; rw [HT.out, if_pos (by rw [← Hun.out]; exact hm)] at he; injection he
        · go_wp2_with fail
          refine bodyPost_ret (v := .tuple #[.int .i64 (un : Int), .nilIface]) (by simp [results, Tryz.results95, go_sem]) rfl ⟨?_, ?_⟩
          · intro er he; rw [HT.out, if_neg (by rw [← Hun.out]; exact hm)] at he; injection he
          · intro n ys he; rw [HT.out, if_neg (by rw [← Hun.out]; exact hm)] at he; injection he with he; injection he with he1 he2; subst he2; rw [← he1, ← Hun.out]; exact ⟨A2, cap2, rfl, ho, HR.out, HB2.out⟩

end Go.Proofs.YtgmmbfnmojjbkaaGreatDoor

namespace Go.Proofs.YtgmmbfnmojjbkaaGreatDoor
open Go.RowKit
set_option linter.unusedVariables false
set_option linter.unusedSimpArgs false

/-- What node, atom, above answer: an error beside nothing, or the term. -/
def NdEnd (w : World) (rb B : Nat) (r : Except Nat (Nd × Fo × Nat × List UInt8)) (e : Ending) (w' : World) : Prop :=
  (∀ er, r = .error er → e = .returned (.tuple #[.agg #[.int .i64 0, .int .i64 0, .string ⟨#[]⟩, .slice none 0 0], .iface 61 (.int .i64 (er : Int))]) ∧ Only rb w w') ∧
  (∀ a l k ys, r = .ok (a, l, k, ys) → ∃ v A2 cap2, e = .returned (.tuple #[v, .nilIface]) ∧ Only rb w w' ∧ RdAt w' rb A2 cap2 ys k ∧ ByAt w' B A2 ys ∧ RepVG w' (fun b => w.heap.size ≤ b ∧ b < w'.heap.size) a l v)

theorem nd_err {w w' : World} {rb B er : Nat} {r : Except Nat (Nd × Fo × Nat × List UInt8)} (hr : r = .error er) (ho : Only rb w w') :
    NdEnd w rb B r (.returned (.tuple #[.agg #[.int .i64 0, .int .i64 0, .string ⟨#[]⟩, .slice none 0 0], .iface 61 (.int .i64 (er : Int))])) w' :=
  ⟨fun er' h => by rw [hr] at h; injection h with h; subst h; exact ⟨rfl, ho⟩, fun a l k ys h => by rw [hr] at h; injection h⟩

theorem nd_ok {w w' : World} {rb B k : Nat} {r : Except Nat (Nd × Fo × Nat × List UInt8)} {a : Nd} {l : Fo} {ys : List UInt8} {v : Value} {A2 : Option Addr} {cap2 : Nat} (hr : r = .ok (a, l, k, ys)) (ho : Only rb w w') (h1 : RdAt w' rb A2 cap2 ys k) (h2 : ByAt w' B A2 ys)
    (h3 : RepVG w' (fun b => w.heap.size ≤ b ∧ b < w'.heap.size) a l v) : NdEnd w rb B r (.returned (.tuple #[v, .nilIface])) w' :=
  ⟨fun er h => by rw [hr] at h; injection h, fun a' l' k' ys' h => by rw [hr] at h; injection h with h; injection h with e1 h; injection h with e2 h; injection h with e3 e4; subst e1 e2 e3 e4; exact ⟨v, A2, cap2, rfl, ho, h1, h2, h3⟩⟩

theorem frozen_set4' (w : World) (q : Nat) (u0 u1 u2 u3 : Value) (p : Addr) (h : p.block ≠ q) :
    ((((w.setCell ⟨q, 0, none⟩ u0).setCell ⟨q, 1, none⟩ u1).setCell ⟨q, 2, none⟩ u2).setCell ⟨q, 3, none⟩ u3).frozen? p = w.frozen? p := by
  refine World.frozen?_of_block ?_
  rw [Below.heap_setCell _ _ _ _ (by simpa using h), Below.heap_setCell _ _ _ _ (by simpa using h), Below.heap_setCell _ _ _ _ (by simpa using h), Below.heap_setCell _ _ _ _ (by simpa using h)]

theorem size_set4' (w : World) (q : Nat) (u0 u1 u2 u3 : Value) :
    ((((w.setCell ⟨q, 0, none⟩ u0).setCell ⟨q, 1, none⟩ u1).setCell ⟨q, 2, none⟩ u2).setCell ⟨q, 3, none⟩ u3).heap.size = w.heap.size := by simp [World.setCell]

theorem RdAt.set4 {w : World} {rb : Nat} {A : Option Addr} {cap : Nat} {xs : List UInt8} {k : Nat} (h : RdAt w rb A cap xs k) {q : Nat} (hq : rb ≠ q) (u0 u1 u2 u3 : Value) :
    RdAt ((((w.setCell ⟨q, 0, none⟩ u0).setCell ⟨q, 1, none⟩ u1).setCell ⟨q, 2, none⟩ u2).setCell ⟨q, 3, none⟩ u3) rb A cap xs k :=
  ⟨by rw [size_set4']; exact h.lt, by rw [cell_set4 _ _ _ _ _ _ _ _ hq]; exact h.c0, by rw [cell_set4 _ _ _ _ _ _ _ _ hq]; exact h.c1, by rw [frozen_set4' _ _ _ _ _ _ _ hq]; exact h.f0, by rw [frozen_set4' _ _ _ _ _ _ _ hq]; exact h.f1, h.cap', h.max'⟩
theorem ByAt.set4 {w : World} {B : Nat} {A : Option Addr} {xs : List UInt8} (h : ByAt w B A xs) {q : Nat} (hq : B ≤ q) (u0 u1 u2 u3 : Value) :
    ByAt ((((w.setCell ⟨q, 0, none⟩ u0).setCell ⟨q, 1, none⟩ u1).setCell ⟨q, 2, none⟩ u2).setCell ⟨q, 3, none⟩ u3) B A xs :=
  h.keep (Nat.le_refl _) (fun b o hb => cell_set4 _ _ _ _ _ _ _ _ (by omega))

def tkAK (k : Nat) (xs : List UInt8) : Except Nat (Nd × Fo × Nat × List UInt8) := match tkA xs with | .error e => .error e | .ok (a, zs) => .ok (a, .nil, k, zs)

theorem fit_leaf (k n : Int) (s : ByteArray) (h1 : 0 ≤ k ∧ k ≤ 1000) (h2 : 0 ≤ n ∧ n ≤ 4294967296) (h3 : s.size ≤ 1000000) : Nd.Fit ⟨k, n, s⟩ :=
  ⟨by simp; omega, by simp; omega, by simp; omega, by simp; omega, by unfold maxLen; simp; omega⟩

theorem rep_leaf {w : World} {S : Nat → Prop} {a : Nd} (h : a.Fit) : RepVG w S a .nil (.agg #[.int .i64 a.kind, .int .i64 a.n, .string a.s, .slice none 0 0]) := ⟨h, none, 0, 0, 0, rfl, ⟨Nat.zero_le _, Nat.zero_le _⟩, .inl rfl, trivial⟩

set_option maxRecDepth 100000 in
set_option maxHeartbeats 1000000 in
theorem ratom_any (w : World) (rb : Nat) (A : Option Addr) (cap : Nat) (xs : List UInt8) (k B : Nat) (h : RdAt w rb A cap xs k) (hy : ByAt w B A xs) (hB : B ≤ rb) :
    Calls Tryz.prog 94 #[.pointer (some ⟨rb, 0, none⟩)] w fun e w' => NdEnd w rb B (tkAK k xs) e w' := by
  have h0 := h.lt
  have HR : Hid (RdAt w rb A cap xs k) := h
  clear h
  go_enter Tryz.func94, Tryz.ntmps94
  go_wp2_with fail
  refine (rnum_any _ rb A cap xs k B 2 1024 _ _ rfl rfl (by omega) (HR.out.keep (Below.alloc (Below.refl _ _) (Nat.le_refl _) _)) (hy.keep (Nat.le_refl _) (fun b o hb => World.cell?_alloc_past _ _ _ (by omega))) hB).mono ?_
  rintro e w1 ⟨h1, h2⟩
  cases ht : tkN 2 1024 xs with
  | error er =>
    obtain ⟨rfl, ho⟩ := h1 er ht
    have HT : Hid (tkAK k xs = .error er) := by show tkAK k xs = _; rw [tkAK, tkA, ht]
    clear h1 h2 ht
    obtain ⟨r0, r1, r2, r3, f0, f1, f2, f3⟩ := res4 ho h0
    go_wp2_with fail
    exact bodyPost_ret (v := .tuple #[.agg #[.int .i64 0, .int .i64 0, .string ⟨#[]⟩, .slice none 0 0], .iface 61 (.int .i64 (er : Int))]) (by simp [results, Tryz.results94, go_sem, r0, r1, r2, r3]) rfl
      (nd_err HT.out (Only.set4 ((Only.alloc (Only.refl _ _) _).trans ho) (Nat.le_refl _) _ _ _ _))
  | ok x =>
    obtain ⟨n, ys⟩ := x
    obtain ⟨A2, cap2, rfl, ho, hrd, hby⟩ := h2 n ys ht
    have hn : n ≤ 1024 := by
      rw [tkN] at ht; split at ht; injection ht; split at ht; injection ht; injection ht with ht; injection ht with e1 e2; omega
    have HT : Hid (tkAK k xs = if ys.length < n then .error 1 else .ok (⟨1, 0, ⟨(ys.take n).toArray⟩⟩, .nil, k, ys.drop n)) := by
      show tkAK k xs = _; rw [tkAK, tkA, ht]; by_cases hq : ys.length < n <;> simp [hq]
    clear h1 h2 ht
    by_cases hl : ys.length < n
    · go_wp2_with fail
      refine (rbytes_short w1 rb A2 cap2 ys k n _ rfl hrd hl).mono ?_
      rintro e w2 ⟨rfl, rfl⟩
      obtain ⟨r0, r1, r2, r3, f0, f1, f2, f3⟩ := res4 ho h0
      go_wp2_with fail
      exact bodyPost_ret (v := .tuple #[.agg #[.int .i64 0, .int .i64 0, .string ⟨#[]⟩, .slice none 0 0], .iface 61 (.int .i64 1)]) (by simp [results, Tryz.results94, go_sem, r0, r1, r2, r3]) rfl
        (nd_err (er := 1) (by rw [HT.out, if_pos hl]) (Only.set4 ((Only.alloc (Only.refl _ _) _).trans ho) (Nat.le_refl _) _ _ _ _))
    · go_wp2_with fail
      refine (rbytes_ok w1 rb A2 cap2 ys k B n _ rfl hrd hby hB (by omega)).mono ?_
      rintro e w2 ⟨A3, A4, cap4, rfl, ho2, hrd2, hby3, hby4⟩
      have hO : Only rb (w.alloc (.cells #[.int .i64 0, .int .i64 0, .string ⟨#[]⟩, .slice none 0 0] 24)) w2 := ho.trans ho2
      obtain ⟨r0, r1, r2, r3, f0, f1, f2, f3⟩ := res4 hO h0
      have hlt : (ys.take n).length = n := by rw [List.length_take]; omega
      have hcv := conv_bytes w2 B A3 (ys.take n) n hby3
      rw [hlt] at hcv
      obtain ⟨st, hst, hss⟩ : ∃ st : ByteArray, st = ⟨(ys.take n).toArray⟩ ∧ st.size = n := ⟨_, rfl, by show (ys.take n).toArray.size = n; rw [List.size_toArray, hlt]⟩
      rw [← hst] at hcv
      have HST : Hid (st = ⟨(ys.take n).toArray⟩) := hst
      have HR2 : Hid (RdAt w2 rb A4 cap4 (ys.drop n) k) := hrd2
      have HY2 : Hid (ByAt w2 B A4 (ys.drop n)) := hby4
      clear hst hrd2 hby4 hby3 hrd hby ho2
      go_wp2_with fail
      refine bodyPost_ret (v := .tuple #[.agg #[.int .i64 1, .int .i64 0, .string st, .slice none 0 0], .nilIface]) (by simp [results, Tryz.results94, go_sem, r0, r1, r2, r3]) rfl ?_
      refine nd_ok (by rw [HT.out, if_neg hl, ← HST.out]) (Only.set4 ((Only.alloc (Only.refl _ _) _).trans hO) (Nat.le_refl _) _ _ _ _) (HR2.out.set4 (by omega) _ _ _ _) (HY2.out.set4 (by omega) _ _ _ _) ?_
      exact rep_leaf (a := ⟨1, 0, st⟩) (fit_leaf 1 0 st (by omega) (by omega) (by omega))

end Go.Proofs.YtgmmbfnmojjbkaaGreatDoor

namespace Go.Proofs.YtgmmbfnmojjbkaaGreatDoor
open Go.RowKit
set_option linter.unusedVariables false
set_option linter.unusedSimpArgs false

theorem Tryz.infoTerm2 : (Tryz.prog.info? 24).map (fun i => (i.zero, i.size, i.bytes)) = some (some (.agg #[.int .i64 0, .int .i64 0, .string ⟨#[]⟩, .slice none 0 0]), 4, 56) := by kernel_rfl

def NodeOk (f : Nat) : Prop := ∀ (w : World) (rb : Nat) (A : Option Addr) (cap : Nat) (xs : List UInt8) (k B : Nat) (dz : Int), dz = 17 - (f : Int) → RdAt w rb A cap xs k → ByAt w B A xs → B ≤ rb → k ≤ 64 →
    Calls Tryz.prog 83 #[.pointer (some ⟨rb, 0, none⟩), .int .i64 dz] w fun e w' => NdEnd w rb B (tk f k xs) e w'

def aboveR (g : Nat → List UInt8 → Except Nat (Nd × Fo × Nat × List UInt8)) (h c k : Nat) (ys : List UInt8) : Except Nat (Nd × Fo × Nat × List UInt8) :=
  match kidsG g c k ys with | .error e => .error e | .ok (f, k1, zs) => .ok (ndK h, f, k1, zs)

def addK (ks : List Kd) (r : Except Nat (Fo × Nat × List UInt8)) : Except Nat (Fo × Nat × List UInt8) := match r with | .error e => .error e | .ok (g, k, ys) => .ok (foOf ks g, k, ys)

theorem tk_le {f k : Nat} {xs : List UInt8} {a : Nd} {l : Fo} {k1 : Nat} {ys : List UInt8} (hf : f ≤ 16) (hk : k ≤ 64) (h : tk f k xs = .ok (a, l, k1, ys)) : k1 ≤ 64 := by
  obtain ⟨_, h2, _⟩ := tk_of f hf _ _ _ _ _ _ h
  have := mayT_le a l (17 - (f : Int)) k (by omega) (by rw [h2])
  rw [h2] at this; simp at this; omega

theorem makeTerms (c : Nat) (hc : c = 1 ∨ c = 2) : ∃ C : Array Value, C.size = 4 * c ∧ ∀ w : World, (Instr.makeSlice 22 (.int .i64 (c : Int)) (.int .i64 (c : Int))).run Tryz.prog w = .ok (.slice (some ⟨w.heap.size, 0, none⟩) c c) (w.alloc (.cells C 24)) := by
  rcases hc with rfl | rfl
  · exact ⟨#[.int .i64 0, .int .i64 0, .string ⟨#[]⟩, .slice none 0 0], rfl, fun w => by kernel_rfl⟩
  · exact ⟨#[.int .i64 0, .int .i64 0, .string ⟨#[]⟩, .slice none 0 0, .int .i64 0, .int .i64 0, .string ⟨#[]⟩, .slice none 0 0], rfl, fun w => by kernel_rfl⟩

/-- The row M of so many terms, the first ones laid. -/
structure RowM (w : World) (M c : Nat) (ks : List Kd) : Prop where
  lt : M < w.heap.size
  le : ks.length ≤ c
  laid : ∀ j, j < 4 * ks.length → w.cell? ⟨M, j, none⟩ = (rowOf ks)[j]?
  free : ∀ j, j < 4 * c → ∃ z, w.cell? ⟨M, j, none⟩ = some z
  soft : ∀ j, w.frozen? ⟨M, j, none⟩ = false
  ok : ∀ q ∈ ks, q.Ok w (fun b => M < b ∧ b < w.heap.size)

def AbRel (w : World) (f rb B M c k : Nat) (xs : List UInt8) (T : Obj) (iv : Value) (wr : World) : Prop :=
  ∃ (ks : List Kd) (k' : Nat) (xs' : List UInt8) (A' : Option Addr) (cap' : Nat), iv = .int .i64 (ks.length : Int) ∧ ks.length ≤ c ∧ k' ≤ 64 ∧ kidsG (tk f) c k xs = addK ks (kidsG (tk f) (c - ks.length) k' xs') ∧
    Only rb (w.alloc T) wr ∧ RowM wr M c ks ∧ RdAt wr rb A' cap' xs' k' ∧ ByAt wr B A' xs'

theorem RowM.keep {w w' : World} {M c : Nat} {ks : List Kd} (h : RowM w M c ks) (hs : w.heap.size ≤ w'.heap.size) (hk : ∀ q, M ≤ q → q < w.heap.size → w'.heap[q]? = w.heap[q]?) : RowM w' M c ks := by
  have c1 : ∀ q j, M ≤ q → q < w.heap.size → w'.cell? ⟨q, j, none⟩ = w.cell? ⟨q, j, none⟩ := fun q j h1 h2 => World.cell?_of_block (hk q h1 h2)
  refine ⟨Nat.lt_of_lt_of_le h.lt hs, h.le, fun j hj => by rw [c1 _ _ (Nat.le_refl _) h.lt]; exact h.laid j hj, fun j hj => by rw [c1 _ _ (Nat.le_refl _) h.lt]; exact h.free j hj, fun j => by rw [World.frozen?_of_block (hk M (Nat.le_refl _) h.lt)]; exact h.soft j, fun q hq => (h.ok q hq).keep (fun b hb => ⟨hb.1, by omega⟩) (fun b o hb => c1 b o (by omega) hb.2)⟩

theorem set4_cells (w : World) (M o : Nat) (u0 u1 u2 u3 : Value) : (((w.setCell ⟨M, o, none⟩ u0).setCell ⟨M, o + 1, none⟩ u1).setCell ⟨M, o + 2, none⟩ u2).setCell ⟨M, o + 3, none⟩ u3 = w.setCells M o [u0, u1, u2, u3] := rfl

theorem heap_setRowC (b : Nat) : ∀ (vs : List Value) (o : Nat) (w : World) (q : Nat), q ≠ b → (w.setCells b o vs).heap[q]? = w.heap[q]?
  | [], _, _, _, _ => rfl
  | v :: r, o, w, q, h => by rw [World.setCells, heap_setRowC b r (o + 1) _ q h, Below.heap_setCell _ _ _ _ (by simpa using h)]
theorem size_setCells (b : Nat) : ∀ (vs : List Value) (o : Nat) (w : World), (w.setCells b o vs).heap.size = w.heap.size
  | [], _, _ => rfl
  | v :: r, o, w => by rw [World.setCells, size_setCells b r]; simp [World.setCell]

theorem Only.setRowC {b M : Nat} {a : World} (hM : a.heap.size ≤ M) : ∀ (vs : List Value) (o : Nat) {w : World}, Only b a w → Only b a (w.setCells M o vs)
  | [], _, _, h => h
  | v :: r, o, w, h => by rw [World.setCells]; exact Only.setRowC hM r (o + 1) (Only.setCell (p := ⟨M, o, none⟩) h (.inr hM) _)

theorem RowM.step {w : World} {M c : Nat} {ks : List Kd} (h : RowM w M c ks) (hc : ks.length < c) (kd : Kd) (hk : kd.Ok w (fun b => M < b ∧ b < w.heap.size)) : RowM (w.setCells M (ks.length * 4) kd.cells) M c (ks ++ [kd]) := by
  have hl : kd.cells.length = 4 := rfl
  have far : ∀ b o, M < b → (w.setCells M (ks.length * 4) kd.cells).cell? ⟨b, o, none⟩ = w.cell? ⟨b, o, none⟩ := fun b o hb => World.cell?_of_block (heap_setRowC M _ _ _ _ (by simp; omega))
  have new : ∀ j, j < 4 → (w.setCells M (ks.length * 4) kd.cells).cell? ⟨M, ks.length * 4 + j, none⟩ = kd.cells[j]? := fun j hj => by
    rw [World.cell?_setCells_in M kd.cells (ks.length * 4) w (fun i hi => by rw [hl] at hi; obtain ⟨z, hz⟩ := h.free (ks.length * 4 + i) (by omega); rw [hz]; rfl) j (by omega)]
    rw [List.getElem?_eq_getElem (by omega)]
  have old : ∀ j, j < ks.length * 4 ∨ ks.length * 4 + 4 ≤ j → (w.setCells M (ks.length * 4) kd.cells).cell? ⟨M, j, none⟩ = w.cell? ⟨M, j, none⟩ := fun j hj => World.cell?_setCells_out M _ _ _ _ (fun _ _ => by rw [hl]; exact hj)
  refine ⟨by rw [size_setCells]; exact h.lt, by simp; omega, fun j hj => ?_, fun j hj => ?_, fun j => by rw [World.frozen?_setCells]; exact h.soft j, fun q hq => ?_⟩
  · rw [List.length_append] at hj; simp only [List.length_cons, List.length_nil] at hj
    rw [rowOf_append]
    by_cases hj1 : j < 4 * ks.length
    · rw [old j (.inl (by omega)), List.getElem?_append_left (by rw [rowOf_length]; exact hj1)]; exact h.laid j hj1
    · rw [List.getElem?_append_right (by rw [rowOf_length]; omega), rowOf_length]
      have e : j = ks.length * 4 + (j - 4 * ks.length) := by omega
      rw [e, new _ (by omega), show ks.length * 4 + (j - 4 * ks.length) - 4 * ks.length = j - 4 * ks.length from by omega]
      simp [rowOf]
  · by_cases hj1 : j < ks.length * 4 ∨ ks.length * 4 + 4 ≤ j
    · rw [old j hj1]; exact h.free j hj
    · have e : j = ks.length * 4 + (j - ks.length * 4) := by omega
      rw [e, new _ (by omega)]
      exact ⟨kd.cells[j - ks.length * 4]'(by omega), List.getElem?_eq_getElem (by omega)⟩
  · rcases List.mem_append.1 hq with hq | hq
    · exact (h.ok q hq).keep (fun b hb => ⟨hb.1, by rw [size_setCells]; exact hb.2⟩) (fun b o hb => far b o hb.1)
    · simp at hq; subst hq
      exact hk.keep (fun b hb => ⟨hb.1, by rw [size_setCells]; exact hb.2⟩) (fun b o hb => far b o hb.1)

theorem RdAt.setCells {w : World} {rb : Nat} {A : Option Addr} {cap : Nat} {xs : List UInt8} {k : Nat} (h : RdAt w rb A cap xs k) {M : Nat} (hM : rb ≠ M) (o : Nat) (vs : List Value) : RdAt (w.setCells M o vs) rb A cap xs k := by
  have e : (w.setCells M o vs).heap[rb]? = w.heap[rb]? := heap_setRowC M vs o w rb hM
  exact ⟨by rw [size_setCells]; exact h.lt, by rw [World.cell?_of_block e]; exact h.c0, by rw [World.cell?_of_block e]; exact h.c1, by rw [World.frozen?_of_block e]; exact h.f0, by rw [World.frozen?_of_block e]; exact h.f1, h.cap', h.max'⟩

set_option maxRecDepth 100000 in
set_option maxHeartbeats 2000000 in
theorem above_any (f : Nat) (hf : f ≤ 16) (ih : NodeOk f) (w : World) (rb : Nat) (A : Option Addr) (cap : Nat) (xs : List UInt8) (k B : Nat) (h c : Nat) (dz cz hz : Int) (hdz : dz = 16 - (f : Int)) (hcz : cz = (c : Int)) (hhz : hz = (h : Int)) (hc2 : c ≤ 2) (hc1 : 1 ≤ c) (hh : h ≤ 255) (hR : RdAt w rb A cap xs k) (hy : ByAt w B A xs) (hB : B ≤ rb) (hk : k ≤ 64) :
    Calls Tryz.prog 96 #[.pointer (some ⟨rb, 0, none⟩), .int .i64 hz, .int .i64 cz, .int .i64 dz] w fun e w' => NdEnd w rb B (aboveR (tk f) h c k xs) e w' := by
  subst hcz hhz
  have HDZ : Hid (dz = 16 - (f : Int)) := hdz
  have hd0 : 0 ≤ dz := by omega
  have hd1 : dz ≤ 16 := by omega
  clear hdz
  have h0 := hR.lt
  have HR : Hid (RdAt w rb A cap xs k) := hR
  clear hR
  obtain ⟨C, hC, hmk⟩ := makeTerms c (by omega)
  go_enter Tryz.func96, Tryz.ntmps96
  go_wp2_with fail
  go_loopw [18] (fun iv wr => AbRel w f rb B (w.heap.size + 1) c k xs (.cells #[.int .i64 0, .int .i64 0, .string ⟨#[]⟩, .slice none 0 0] 24) iv wr) (fun iv _ => c - (intOf iv).toNat)
  case atStart =>
    refine ⟨[], k, xs, A, cap, rfl, Nat.zero_le _, hk, ?_, Only.alloc (Only.refl _ _) _, ⟨by simp, Nat.zero_le _, fun j hj => by simp at hj, ?_, fun j => by simp [go_sem], by simp⟩, HR.out.keep (Below.alloc (Below.alloc (Below.refl _ _) (by simp) _) (by simp) _), hy.keep (Nat.le_refl _) (fun b o hb => by rw [World.cell?_alloc_past _ _ _ (by simp; omega), World.cell?_alloc_past _ _ _ (by omega)])⟩
    · show kidsG (tk f) c k xs = addK [] (kidsG (tk f) (c - 0) k xs)
      rw [Nat.sub_zero]; cases kidsG (tk f) c k xs <;> rfl
    · intro j hj
      exact ⟨C[j]'(by omega), by simp [go_sem, show j < C.size by omega]⟩
  case round =>
    obtain ⟨ks, k', xs', A', cap', rfl, hks, hk', hrun, ho, hrow, hrd, hby⟩ := hrel
    have HRUN : Hid (kidsG (tk f) c k xs = addK ks (kidsG (tk f) (c - ks.length) k' xs')) := hrun
    have hsz := ho.size
    simp only [World.heap_size_alloc'] at hsz
    clear hrun hmk
    by_cases hlt : (ks.length : Int) < (c : Int)
    · have HRD : Hid (RdAt wr rb A' cap' xs' k') := hrd
      have HBY : Hid (ByAt wr B A' xs') := hby
      have HROW : Hid (RowM wr (w.heap.size + 1) c ks) := hrow
      have hMr := hrow.lt
      clear hrd hby hrow
      go_wp2_with fail
      refine (ih wr rb A' cap' xs' k' B _ (by have := HDZ.out; omega) HRD.out HBY.out hB hk').mono ?_
      rintro e w2 ⟨h1, h2⟩
      cases ht : tk f k' xs' with
      | error er =>
        obtain ⟨rfl, ho2⟩ := h1 er ht
        have HT : Hid (aboveR (tk f) h c k xs = .error er) := by
          show aboveR (tk f) h c k xs = _
          rw [aboveR, HRUN.out, show c - ks.length = (c - ks.length - 1) + 1 from by omega, kidsG, ht]; rfl
        clear h1 h2 ht
        obtain ⟨r0, r1, r2, r3, f0, f1, f2, f3⟩ := res4 (ho.trans ho2) h0
        have hq : w.heap.size < w2.heap.size := by have := ho2.size; omega
        go_wp2_with fail
        exact bodyPost_ret (v := .tuple #[.agg #[.int .i64 0, .int .i64 0, .string ⟨#[]⟩, .slice none 0 0], .iface 61 (.int .i64 (er : Int))]) (by simp [results, Tryz.results96, go_sem, r0, r1, r2, r3, hq]) rfl
          (nd_err HT.out (Only.alloc (Only.set4 ((Only.alloc (Only.refl _ _) _).trans (ho.trans ho2)) (Nat.le_refl _) _ _ _ _) _))
      | ok x =>
        obtain ⟨a1, l1, k1, ys⟩ := x
        obtain ⟨v, A2, cap2, rfl, ho2, hrd2, hby2, hf1, A3, cap3, b3, o3, rfl, hn3, hA3, hl3⟩ := h2 a1 l1 k1 ys ht
        have HA3 : Hid (flen l1 = 0 ∨ A3 = some ⟨b3, o3, none⟩) := hA3
        have hle := tk_le hf hk' ht
        have HT : Hid (kidsG (tk f) c k xs = addK (ks ++ [⟨0, 0, a1, l1, A3, cap3, b3, o3⟩]) (kidsG (tk f) (c - (ks.length + 1)) k1 ys)) := by
          show kidsG (tk f) c k xs = _
          rw [HRUN.out, show c - ks.length = (c - (ks.length + 1)) + 1 from by omega, kidsG, ht]
          simp only
          cases kidsG (tk f) (c - (ks.length + 1)) k1 ys with
          | error e => rfl
          | ok y => obtain ⟨g, k9, z9⟩ := y; simp [addK, foOf_append, foOf]
        have hs2 := ho2.size
        have hrow2 : RowM w2 (w.heap.size + 1) c ks := HROW.out.keep hs2 (fun q h1 h2 => ho2.block q h2 (by omega))
        have HROW2 : Hid (RowM w2 (w.heap.size + 1) c ks) := hrow2
        have HRD2 : Hid (RdAt w2 rb A2 cap2 ys k1) := hrd2
        have HBY2 : Hid (ByAt w2 B A2 ys) := hby2
        have hlt2 := hrow2.lt
        obtain ⟨z0, x0⟩ := hrow2.free (ks.length * 4) (by omega)
        obtain ⟨z1, x1⟩ := hrow2.free (ks.length * 4 + 1) (by omega)
        obtain ⟨z2, x2⟩ := hrow2.free (ks.length * 4 + 2) (by omega)
        obtain ⟨z3, x3⟩ := hrow2.free (ks.length * 4 + 3) (by omega)
        have y0 := hrow2.soft (ks.length * 4)
        have y1 := hrow2.soft (ks.length * 4 + 1)
        have y2 := hrow2.soft (ks.length * 4 + 2)
        have y3 := hrow2.soft (ks.length * 4 + 3)
        clear h1 h2 ht hA3 hrow2 hrd2 hby2 HRUN HROW HRD HBY
        go_wp2_with fail
        go_roundw
        case rel =>
          refine ⟨ks ++ [⟨0, 0, a1, l1, A3, cap3, b3, o3⟩], k1, ys, A2, cap2, by simp, by simp; omega, hle, by simp only [List.length_append, List.length_cons, List.length_nil]; exact HT.out, ?_, ?_, ?_, ?_⟩
          · rw [set4_cells]; exact Only.alloc (Only.setRowC (by simp) _ _ (ho.trans ho2)) _
          · rw [set4_cells]
            refine RowM.keep (RowM.step HROW2.out (by omega) ⟨0, 0, a1, l1, A3, cap3, b3, o3⟩ ⟨hf1, hn3, HA3.out, RepG.keep (fun b hb => ⟨by have := hb.1; omega, hb.2⟩) (fun _ _ _ => rfl) hl3⟩) (by rw [World.heap_size_alloc', size_setCells, size_setCells]; omega) (fun q _ hq => Below.heap_alloc _ _ _ hq)
          · rw [set4_cells]; exact (HRD2.out.setCells (by omega) _ _).keep (Below.alloc (Below.refl _ _) (Nat.le_refl _) _)
          · rw [set4_cells]; exact HBY2.out.keep (Nat.le_refl _) (fun b o hb => by rw [World.cell?_alloc_past _ _ _ (by rw [size_setCells]; omega)]; exact World.cell?_of_block (heap_setRowC _ _ _ _ _ (by simp; omega)))
        case measure => simp [intOf]; omega
    · obtain rfl : c = ks.length := by omega
      obtain ⟨r0, r1, r2, r3, f0, f1, f2, f3⟩ := res4 ho h0
      have HT : Hid (aboveR (tk f) h ks.length k xs = .ok (ndK h, foOf ks .nil, k', xs')) := by
        show aboveR (tk f) h ks.length k xs = _
        rw [aboveR, HRUN.out, Nat.sub_self, kidsG]; rfl
      have HRD : Hid (RdAt wr rb A' cap' xs' k') := hrd
      have HBY : Hid (ByAt wr B A' xs') := hby
      have HROW : Hid (RowM wr (w.heap.size + 1) ks.length ks) := hrow
      clear hrd hby hrow HRUN
      go_wp2_with fail
      refine bodyPost_ret (v := .tuple #[.agg #[.int .i64 (h : Int), .int .i64 0, .string ⟨#[]⟩, .slice (some ⟨w.heap.size + 1, 0, none⟩) ks.length ks.length], .nilIface]) (by simp [results, Tryz.results96, go_sem, r0, r1, r2, r3]) rfl ?_
      refine nd_ok HT.out (Only.set4 ((Only.alloc (Only.refl _ _) _).trans ho) (Nat.le_refl _) _ _ _ _) (HRD.out.set4 (by omega) _ _ _ _) (HBY.out.set4 (by omega) _ _ _ _) ?_
      have hrow := HROW.out
      refine ⟨fit_leaf h 0 _ (by omega) (by omega) (by decide), some ⟨w.heap.size + 1, 0, none⟩, ks.length, w.heap.size + 1, 0, by rw [flen_foOf]; rfl, by rw [flen_foOf]; omega, .inr rfl, ?_⟩
      refine RepG.keep (S := fun b => w.heap.size + 1 ≤ b ∧ b < wr.heap.size) (fun b hb => ⟨by omega, by rw [size_set4']; exact hb.2⟩) (fun b o hb => cell_set4 _ _ _ _ _ _ _ _ (by omega)) ?_
      exact rep_of_row ⟨Nat.le_refl _, hrow.lt⟩ ks 0 (fun q hq => (hrow.ok q hq).keep (fun b hb => ⟨by omega, hb.2⟩) (fun _ _ _ => rfl)) (fun j hj => by rw [Nat.zero_add]; exact hrow.laid j hj)

end Go.Proofs.YtgmmbfnmojjbkaaGreatDoor

namespace Go.Proofs.YtgmmbfnmojjbkaaGreatDoor
open Go.RowKit
set_option linter.unusedVariables false
set_option linter.unusedSimpArgs false

theorem size_setCell' (w : World) (p : Addr) (u : Value) : (w.setCell p u).heap.size = w.heap.size := by simp [World.setCell]

theorem res4s {tb : Nat} {w W : World} {p : Addr} {u : Value} {T : TypeId} (h : Only tb ((w.setCell p u).alloc (.cells #[.int .i64 0, .int .i64 0, .string ⟨#[]⟩, .slice none 0 0] T)) W) (ht : tb < w.heap.size) :
    W.cell? ⟨w.heap.size, 0, none⟩ = some (.int .i64 0) ∧ W.cell? ⟨w.heap.size, 1, none⟩ = some (.int .i64 0) ∧ W.cell? ⟨w.heap.size, 2, none⟩ = some (.string ⟨#[]⟩) ∧ W.cell? ⟨w.heap.size, 3, none⟩ = some (.slice none 0 0) ∧
      W.frozen? ⟨w.heap.size, 0, none⟩ = false ∧ W.frozen? ⟨w.heap.size, 1, none⟩ = false ∧ W.frozen? ⟨w.heap.size, 2, none⟩ = false ∧ W.frozen? ⟨w.heap.size, 3, none⟩ = false := by
  have := res4 h (by rw [size_setCell']; exact ht)
  rwa [size_setCell'] at this

theorem RdAt.tick {w : World} {rb : Nat} {A : Option Addr} {cap : Nat} {xs : List UInt8} {k : Nat} (h : RdAt w rb A cap xs k) (T : Obj) : RdAt ((w.setCell ⟨rb, 1, none⟩ (.int .i64 ((k : Int) + 1))).alloc T) rb A cap xs (k + 1) := by
  refine RdAt.keep (w := w.setCell ⟨rb, 1, none⟩ (.int .i64 ((k : Int) + 1))) ⟨by rw [size_setCell']; exact h.lt, ?_, ?_, ?_, ?_, h.cap', h.max'⟩ (Below.alloc (Below.refl _ _) (Nat.le_refl _) _)
  · rw [World.cell?_setCell_other]
    · exact h.c0
    · intro e; injection e with _ e; omega
  · rw [World.cell?_setCell_same _ _ _ h.c1]; rfl
  · rw [World.frozen?_setCell]; exact h.f0
  · rw [World.frozen?_setCell]; exact h.f1

set_option maxRecDepth 100000 in
set_option maxHeartbeats 4000000 in
theorem node_step (f : Nat) (hf : f ≤ 15) (ih : NodeOk f) : NodeOk (f + 1) := by
  intro w rb A cap xs k B dz hdz hR hy hB hk
  have HDZ : Hid (dz = 16 - (f : Int)) := by show dz = _; omega
  have hd0 : 0 ≤ dz := by omega
  have hd1 : dz ≤ 16 := by omega
  clear hdz
  have h0 := hR.lt
  have HR : Hid (RdAt w rb A cap xs k) := hR
  obtain ⟨_, c0, c1, g0, g1, m0, m1⟩ := hR
  have ho1 : Only rb w ((w.setCell ⟨rb, 1, none⟩ (.int .i64 ((k : Int) + 1))).alloc (.cells #[.int .i64 0, .int .i64 0, .string ⟨#[]⟩, .slice none 0 0] 24)) := Only.alloc (Only.setCell (p := ⟨rb, 1, none⟩) (Only.refl _ _) (.inl rfl) _) _
  by_cases hk1 : 64 < k + 1
  · have HT : Hid (tk (f + 1) k xs = .error 4) := by show tk (f + 1) k xs = _; cases xs <;> rw [tk, if_pos hk1]
    go_enter Tryz.func83, Tryz.ntmps83
    go_wp2_with fail
    exact bodyPost_ret (v := .tuple #[.agg #[.int .i64 0, .int .i64 0, .string ⟨#[]⟩, .slice none 0 0], .iface 61 (.int .i64 4)]) (by simp [results, Tryz.results83, go_sem, size_setCell']) rfl (nd_err (er := 4) HT.out ho1)
  have hR1 : Hid (RdAt ((w.setCell ⟨rb, 1, none⟩ (.int .i64 ((k : Int) + 1))).alloc (.cells #[.int .i64 0, .int .i64 0, .string ⟨#[]⟩, .slice none 0 0] 24)) rb A cap xs (k + 1)) := HR.out.tick _
  have hY1 : Hid (ByAt ((w.setCell ⟨rb, 1, none⟩ (.int .i64 ((k : Int) + 1))).alloc (.cells #[.int .i64 0, .int .i64 0, .string ⟨#[]⟩, .slice none 0 0] 24)) B A xs) := hy.keep (Nat.le_refl _) (fun b o hb => ho1.cell (by simp; omega) (by simp; omega))
  have hk2 : decide (64 < (k : Int) + 1) = false := by simp; omega
  have hk3 : decide (16 < dz) = false := by simp; omega
  cases xs with
  | nil =>
    have HT : Hid (tk (f + 1) k [] = .error 1) := by show tk (f + 1) k [] = _; rw [tk, if_neg hk1]
    go_enter Tryz.func83, Tryz.ntmps83
    go_wp2_with fail
    refine (rbytes_short _ rb A cap [] (k + 1) 1 _ rfl hR1.out (by simp)).mono ?_
    rintro e w2 ⟨rfl, rfl⟩
    go_wp2_with fail
    exact bodyPost_ret (v := .tuple #[.agg #[.int .i64 0, .int .i64 0, .string ⟨#[]⟩, .slice none 0 0], .iface 61 (.int .i64 1)]) (by simp [results, Tryz.results83, go_sem, size_setCell']) rfl (nd_err (er := 1) HT.out ho1)
  | cons x zs =>
    have HK0 : Hid (tk (f + 1) k (x :: zs) = tkH (tk f) x.toNat (k + 1) zs) := by show _ = _; rw [tk, if_neg hk1]
    have hx : x.toNat < 256 := x.toNat_lt
    clear c0 g0
    go_enter Tryz.func83, Tryz.ntmps83
    go_wp2_with fail
    refine (rbytes_ok _ rb A cap (x :: zs) (k + 1) B 1 _ rfl hR1.out hY1.out hB (by simp)).mono ?_
    rintro e w2 ⟨A1, A2, cap2, rfl, ho2, hrd2, hb1, hb2⟩
    have HRD : Hid (RdAt w2 rb A2 cap2 zs (k + 1)) := hrd2
    have HBY : Hid (ByAt w2 B A2 zs) := hb2
    obtain ⟨bb, oo, rfl, hbb, hcc⟩ : ∃ b o, A1 = some ⟨b, o, none⟩ ∧ b < B ∧ ∀ i, i < [x].length → w2.cell? ⟨b, o + i, none⟩ = some (.int .u8 (([x].getD i 0).toNat : Int)) := by
      rcases hb1 with h | h
      · simp at h
      · exact h
    have hc0 : w2.cell? ⟨bb, oo, none⟩ = some (.int .u8 (x.toNat : Int)) := hcc 0 (by simp)
    clear hcc hrd2 hb2 hb1 hR1 hY1 HR hy c1 g1
    generalize hh : x.toNat = h at *
    clear hh
    by_cases q1 : h = 1
    · subst q1
      have HK : Hid (tk (f + 1) k (x :: zs) = tkAK (k + 1) zs) := by show _ = _; rw [HK0.out, tkH, if_pos rfl]; rfl
      go_wp2_with fail
      refine (ratom_any w2 rb A2 cap2 zs (k + 1) B HRD.out HBY.out hB).mono ?_
      rintro e w3 ⟨h1, h2⟩
      cases ht : tkAK (k + 1) zs with
      | error er =>
        obtain ⟨rfl, ho3⟩ := h1 er ht
        have HT : Hid (tk (f + 1) k (x :: zs) = .error er) := by show _ = _; rw [HK.out]; exact ht
        clear h1 h2 ht HK
        obtain ⟨r0, r1, r2, r3, f0, f1, f2, f3⟩ := res4s (ho2.trans ho3) h0
        go_wp2_with fail
        exact bodyPost_ret (v := .tuple #[.agg #[.int .i64 0, .int .i64 0, .string ⟨#[]⟩, .slice none 0 0], .iface 61 (.int .i64 (er : Int))]) (by simp [results, Tryz.results83, go_sem, r0, r1, r2, r3]) rfl
          (nd_err HT.out (Only.set4 (ho1.trans (ho2.trans ho3)) (Nat.le_refl _) _ _ _ _))
      | ok y =>
        obtain ⟨a1, l1, k1, us⟩ := y
        obtain ⟨v, A5, cap5, rfl, ho3, hrd3, hby3, hf1, A6, cap6, b6, o6, rfl, hn6, hA6, hl6⟩ := h2 a1 l1 k1 us ht
        have HT : Hid (tk (f + 1) k (x :: zs) = .ok (a1, l1, k1, us)) := by show _ = _; rw [HK.out]; exact ht
        have HA6 : Hid (flen l1 = 0 ∨ A6 = some ⟨b6, o6, none⟩) := hA6
        have HR3 : Hid (RdAt w3 rb A5 cap5 us k1) := hrd3
        have HY3 : Hid (ByAt w3 B A5 us) := hby3
        clear h1 h2 ht HK hA6 hrd3 hby3
        obtain ⟨r0, r1, r2, r3, f0, f1, f2, f3⟩ := res4s (ho2.trans ho3) h0
        go_wp2_with fail
        refine bodyPost_ret (v := .tuple #[.agg #[.int .i64 a1.kind, .int .i64 a1.n, .string a1.s, .slice A6 (flen l1) cap6], .nilIface]) (by simp [results, Tryz.results83, go_sem, r0, r1, r2, r3]) rfl ?_
        have hsz := ho2.size
        rw [World.heap_size_alloc', size_setCell'] at hsz
        refine nd_ok HT.out (Only.set4 (ho1.trans (ho2.trans ho3)) (Nat.le_refl _) _ _ _ _) (HR3.out.set4 (by omega) _ _ _ _) (HY3.out.set4 (by omega) _ _ _ _) ⟨hf1, A6, cap6, b6, o6, rfl, hn6, HA6.out, ?_⟩
        exact RepG.keep (fun b hb => ⟨by have := hb.1; omega, by rw [size_set4']; exact hb.2⟩) (fun b o hb => cell_set4 _ _ _ _ _ _ _ _ (by have := hb.1; omega)) hl6
    by_cases q2 : h = 2
    · subst q2
      have HK1 : Hid (∀ r, tkN 4 1073741824 zs = r → tk (f + 1) k (x :: zs) = match r with | .error e => .error e | .ok (n, us) => .ok (⟨2, (n : Int), ⟨#[]⟩⟩, .nil, k + 1, us)) := by
        intro r hr; rw [HK0.out, tkH, if_neg (by decide), if_pos rfl, hr]; cases r <;> rfl
      go_wp2_with fail
      refine (rnum_any w2 rb A2 cap2 zs (k + 1) B 4 1073741824 _ _ rfl rfl (by omega) HRD.out HBY.out hB).mono ?_
      rintro e w3 ⟨h1, h2⟩
      cases ht : tkN 4 1073741824 zs with
      | error er =>
        obtain ⟨rfl, ho3⟩ := h1 er ht
        have HT : Hid (tk (f + 1) k (x :: zs) = .error er) := HK1.out _ ht
        clear h1 h2 ht HK1
        obtain ⟨r0, r1, r2, r3, f0, f1, f2, f3⟩ := res4s (ho2.trans ho3) h0
        go_wp2_with fail
        exact bodyPost_ret (v := .tuple #[.agg #[.int .i64 0, .int .i64 0, .string ⟨#[]⟩, .slice none 0 0], .iface 61 (.int .i64 (er : Int))]) (by simp [results, Tryz.results83, go_sem, r0, r1, r2, r3]) rfl
          (nd_err HT.out (Only.set4 (ho1.trans (ho2.trans ho3)) (Nat.le_refl _) _ _ _ _))
      | ok y =>
        obtain ⟨n, us⟩ := y
        obtain ⟨A5, cap5, rfl, ho3, hrd3, hby3⟩ := h2 n us ht
        have hn : n ≤ 1073741824 := (tkN_of ht).2.2.1
        have HT : Hid (tk (f + 1) k (x :: zs) = .ok (⟨2, (n : Int), ⟨#[]⟩⟩, .nil, k + 1, us)) := HK1.out _ ht
        have HR3 : Hid (RdAt w3 rb A5 cap5 us (k + 1)) := hrd3
        have HY3 : Hid (ByAt w3 B A5 us) := hby3
        clear h1 h2 ht HK1 hrd3 hby3
        obtain ⟨r0, r1, r2, r3, f0, f1, f2, f3⟩ := res4s (ho2.trans ho3) h0
        go_wp2_with fail
        refine bodyPost_ret (v := .tuple #[.agg #[.int .i64 2, .int .i64 (n : Int), .string ⟨#[]⟩, .slice none 0 0], .nilIface]) (by simp [results, Tryz.results83, go_sem, r0, r1, r2, r3]) rfl ?_
        exact nd_ok HT.out (Only.set4 (ho1.trans (ho2.trans ho3)) (Nat.le_refl _) _ _ _ _) (HR3.out.set4 (by omega) _ _ _ _) (HY3.out.set4 (by omega) _ _ _ _) (rep_leaf (a := ⟨2, (n : Int), ⟨#[]⟩⟩) (fit_leaf 2 n _ (by omega) (by omega) (by decide)))
    by_cases q3 : h = 3
    · subst q3
      have HK : Hid (tk (f + 1) k (x :: zs) = aboveR (tk f) 3 1 (k + 1) zs) := by show _ = _; rw [HK0.out, tkH, if_neg (by decide), if_neg (by decide), if_pos (by decide)]; rfl
      go_wp2_with fail
      refine (above_any f (by omega) ih w2 rb A2 cap2 zs (k + 1) B 3 1 _ _ _ HDZ.out rfl rfl (by omega) (by omega) (by omega) HRD.out HBY.out hB (by omega)).mono ?_
      rintro e w3 ⟨h1, h2⟩
      cases ht : aboveR (tk f) 3 1 (k + 1) zs with
      | error er =>
        obtain ⟨rfl, ho3⟩ := h1 er ht
        have HT : Hid (tk (f + 1) k (x :: zs) = .error er) := by show _ = _; rw [HK.out]; exact ht
        clear h1 h2 ht HK
        obtain ⟨r0, r1, r2, r3, f0, f1, f2, f3⟩ := res4s (ho2.trans ho3) h0
        go_wp2_with fail
        exact bodyPost_ret (v := .tuple #[.agg #[.int .i64 0, .int .i64 0, .string ⟨#[]⟩, .slice none 0 0], .iface 61 (.int .i64 (er : Int))]) (by simp [results, Tryz.results83, go_sem, r0, r1, r2, r3]) rfl
          (nd_err HT.out (Only.set4 (ho1.trans (ho2.trans ho3)) (Nat.le_refl _) _ _ _ _))
      | ok y =>
        obtain ⟨a1, l1, k1, us⟩ := y
        obtain ⟨v, A5, cap5, rfl, ho3, hrd3, hby3, hf1, A6, cap6, b6, o6, rfl, hn6, hA6, hl6⟩ := h2 a1 l1 k1 us ht
        have HT : Hid (tk (f + 1) k (x :: zs) = .ok (a1, l1, k1, us)) := by show _ = _; rw [HK.out]; exact ht
        have HA6 : Hid (flen l1 = 0 ∨ A6 = some ⟨b6, o6, none⟩) := hA6
        have HR3 : Hid (RdAt w3 rb A5 cap5 us k1) := hrd3
        have HY3 : Hid (ByAt w3 B A5 us) := hby3
        clear h1 h2 ht HK hA6 hrd3 hby3
        obtain ⟨r0, r1, r2, r3, f0, f1, f2, f3⟩ := res4s (ho2.trans ho3) h0
        go_wp2_with fail
        refine bodyPost_ret (v := .tuple #[.agg #[.int .i64 a1.kind, .int .i64 a1.n, .string a1.s, .slice A6 (flen l1) cap6], .nilIface]) (by simp [results, Tryz.results83, go_sem, r0, r1, r2, r3]) rfl ?_
        have hsz := ho2.size
        rw [World.heap_size_alloc', size_setCell'] at hsz
        refine nd_ok HT.out (Only.set4 (ho1.trans (ho2.trans ho3)) (Nat.le_refl _) _ _ _ _) (HR3.out.set4 (by omega) _ _ _ _) (HY3.out.set4 (by omega) _ _ _ _) ⟨hf1, A6, cap6, b6, o6, rfl, hn6, HA6.out, ?_⟩
        exact RepG.keep (fun b hb => ⟨by have := hb.1; omega, by rw [size_set4']; exact hb.2⟩) (fun b o hb => cell_set4 _ _ _ _ _ _ _ _ (by have := hb.1; omega)) hl6
    by_cases q4 : h = 4
    · subst q4
      have HK : Hid (tk (f + 1) k (x :: zs) = aboveR (tk f) 4 1 (k + 1) zs) := by show _ = _; rw [HK0.out, tkH, if_neg (by decide), if_neg (by decide), if_pos (by decide)]; rfl
      go_wp2_with fail
      refine (above_any f (by omega) ih w2 rb A2 cap2 zs (k + 1) B 4 1 _ _ _ HDZ.out rfl rfl (by omega) (by omega) (by omega) HRD.out HBY.out hB (by omega)).mono ?_
      rintro e w3 ⟨h1, h2⟩
      cases ht : aboveR (tk f) 4 1 (k + 1) zs with
      | error er =>
        obtain ⟨rfl, ho3⟩ := h1 er ht
        have HT : Hid (tk (f + 1) k (x :: zs) = .error er) := by show _ = _; rw [HK.out]; exact ht
        clear h1 h2 ht HK
        obtain ⟨r0, r1, r2, r3, f0, f1, f2, f3⟩ := res4s (ho2.trans ho3) h0
        go_wp2_with fail
        exact bodyPost_ret (v := .tuple #[.agg #[.int .i64 0, .int .i64 0, .string ⟨#[]⟩, .slice none 0 0], .iface 61 (.int .i64 (er : Int))]) (by simp [results, Tryz.results83, go_sem, r0, r1, r2, r3]) rfl
          (nd_err HT.out (Only.set4 (ho1.trans (ho2.trans ho3)) (Nat.le_refl _) _ _ _ _))
      | ok y =>
        obtain ⟨a1, l1, k1, us⟩ := y
        obtain ⟨v, A5, cap5, rfl, ho3, hrd3, hby3, hf1, A6, cap6, b6, o6, rfl, hn6, hA6, hl6⟩ := h2 a1 l1 k1 us ht
        have HT : Hid (tk (f + 1) k (x :: zs) = .ok (a1, l1, k1, us)) := by show _ = _; rw [HK.out]; exact ht
        have HA6 : Hid (flen l1 = 0 ∨ A6 = some ⟨b6, o6, none⟩) := hA6
        have HR3 : Hid (RdAt w3 rb A5 cap5 us k1) := hrd3
        have HY3 : Hid (ByAt w3 B A5 us) := hby3
        clear h1 h2 ht HK hA6 hrd3 hby3
        obtain ⟨r0, r1, r2, r3, f0, f1, f2, f3⟩ := res4s (ho2.trans ho3) h0
        go_wp2_with fail
        refine bodyPost_ret (v := .tuple #[.agg #[.int .i64 a1.kind, .int .i64 a1.n, .string a1.s, .slice A6 (flen l1) cap6], .nilIface]) (by simp [results, Tryz.results83, go_sem, r0, r1, r2, r3]) rfl ?_
        have hsz := ho2.size
        rw [World.heap_size_alloc', size_setCell'] at hsz
        refine nd_ok HT.out (Only.set4 (ho1.trans (ho2.trans ho3)) (Nat.le_refl _) _ _ _ _) (HR3.out.set4 (by omega) _ _ _ _) (HY3.out.set4 (by omega) _ _ _ _) ⟨hf1, A6, cap6, b6, o6, rfl, hn6, HA6.out, ?_⟩
        exact RepG.keep (fun b hb => ⟨by have := hb.1; omega, by rw [size_set4']; exact hb.2⟩) (fun b o hb => cell_set4 _ _ _ _ _ _ _ _ (by have := hb.1; omega)) hl6
    by_cases q5 : h = 5
    · subst q5
      have HK : Hid (tk (f + 1) k (x :: zs) = aboveR (tk f) 5 2 (k + 1) zs) := by show _ = _; rw [HK0.out, tkH, if_neg (by decide), if_neg (by decide), if_neg (by decide), if_pos (by decide)]; rfl
      go_wp2_with fail
      refine (above_any f (by omega) ih w2 rb A2 cap2 zs (k + 1) B 5 2 _ _ _ HDZ.out rfl rfl (by omega) (by omega) (by omega) HRD.out HBY.out hB (by omega)).mono ?_
      rintro e w3 ⟨h1, h2⟩
      cases ht : aboveR (tk f) 5 2 (k + 1) zs with
      | error er =>
        obtain ⟨rfl, ho3⟩ := h1 er ht
        have HT : Hid (tk (f + 1) k (x :: zs) = .error er) := by show _ = _; rw [HK.out]; exact ht
        clear h1 h2 ht HK
        obtain ⟨r0, r1, r2, r3, f0, f1, f2, f3⟩ := res4s (ho2.trans ho3) h0
        go_wp2_with fail
        exact bodyPost_ret (v := .tuple #[.agg #[.int .i64 0, .int .i64 0, .string ⟨#[]⟩, .slice none 0 0], .iface 61 (.int .i64 (er : Int))]) (by simp [results, Tryz.results83, go_sem, r0, r1, r2, r3]) rfl
          (nd_err HT.out (Only.set4 (ho1.trans (ho2.trans ho3)) (Nat.le_refl _) _ _ _ _))
      | ok y =>
        obtain ⟨a1, l1, k1, us⟩ := y
        obtain ⟨v, A5, cap5, rfl, ho3, hrd3, hby3, hf1, A6, cap6, b6, o6, rfl, hn6, hA6, hl6⟩ := h2 a1 l1 k1 us ht
        have HT : Hid (tk (f + 1) k (x :: zs) = .ok (a1, l1, k1, us)) := by show _ = _; rw [HK.out]; exact ht
        have HA6 : Hid (flen l1 = 0 ∨ A6 = some ⟨b6, o6, none⟩) := hA6
        have HR3 : Hid (RdAt w3 rb A5 cap5 us k1) := hrd3
        have HY3 : Hid (ByAt w3 B A5 us) := hby3
        clear h1 h2 ht HK hA6 hrd3 hby3
        obtain ⟨r0, r1, r2, r3, f0, f1, f2, f3⟩ := res4s (ho2.trans ho3) h0
        go_wp2_with fail
        refine bodyPost_ret (v := .tuple #[.agg #[.int .i64 a1.kind, .int .i64 a1.n, .string a1.s, .slice A6 (flen l1) cap6], .nilIface]) (by simp [results, Tryz.results83, go_sem, r0, r1, r2, r3]) rfl ?_
        have hsz := ho2.size
        rw [World.heap_size_alloc', size_setCell'] at hsz
        refine nd_ok HT.out (Only.set4 (ho1.trans (ho2.trans ho3)) (Nat.le_refl _) _ _ _ _) (HR3.out.set4 (by omega) _ _ _ _) (HY3.out.set4 (by omega) _ _ _ _) ⟨hf1, A6, cap6, b6, o6, rfl, hn6, HA6.out, ?_⟩
        exact RepG.keep (fun b hb => ⟨by have := hb.1; omega, by rw [size_set4']; exact hb.2⟩) (fun b o hb => cell_set4 _ _ _ _ _ _ _ _ (by have := hb.1; omega)) hl6
    by_cases q6 : h = 6
    · subst q6
      have HK : Hid (tk (f + 1) k (x :: zs) = aboveR (tk f) 6 2 (k + 1) zs) := by show _ = _; rw [HK0.out, tkH, if_neg (by decide), if_neg (by decide), if_neg (by decide), if_pos (by decide)]; rfl
      go_wp2_with fail
      refine (above_any f (by omega) ih w2 rb A2 cap2 zs (k + 1) B 6 2 _ _ _ HDZ.out rfl rfl (by omega) (by omega) (by omega) HRD.out HBY.out hB (by omega)).mono ?_
      rintro e w3 ⟨h1, h2⟩
      cases ht : aboveR (tk f) 6 2 (k + 1) zs with
      | error er =>
        obtain ⟨rfl, ho3⟩ := h1 er ht
        have HT : Hid (tk (f + 1) k (x :: zs) = .error er) := by show _ = _; rw [HK.out]; exact ht
        clear h1 h2 ht HK
        obtain ⟨r0, r1, r2, r3, f0, f1, f2, f3⟩ := res4s (ho2.trans ho3) h0
        go_wp2_with fail
        exact bodyPost_ret (v := .tuple #[.agg #[.int .i64 0, .int .i64 0, .string ⟨#[]⟩, .slice none 0 0], .iface 61 (.int .i64 (er : Int))]) (by simp [results, Tryz.results83, go_sem, r0, r1, r2, r3]) rfl
          (nd_err HT.out (Only.set4 (ho1.trans (ho2.trans ho3)) (Nat.le_refl _) _ _ _ _))
      | ok y =>
        obtain ⟨a1, l1, k1, us⟩ := y
        obtain ⟨v, A5, cap5, rfl, ho3, hrd3, hby3, hf1, A6, cap6, b6, o6, rfl, hn6, hA6, hl6⟩ := h2 a1 l1 k1 us ht
        have HT : Hid (tk (f + 1) k (x :: zs) = .ok (a1, l1, k1, us)) := by show _ = _; rw [HK.out]; exact ht
        have HA6 : Hid (flen l1 = 0 ∨ A6 = some ⟨b6, o6, none⟩) := hA6
        have HR3 : Hid (RdAt w3 rb A5 cap5 us k1) := hrd3
        have HY3 : Hid (ByAt w3 B A5 us) := hby3
        clear h1 h2 ht HK hA6 hrd3 hby3
        obtain ⟨r0, r1, r2, r3, f0, f1, f2, f3⟩ := res4s (ho2.trans ho3) h0
        go_wp2_with fail
        refine bodyPost_ret (v := .tuple #[.agg #[.int .i64 a1.kind, .int .i64 a1.n, .string a1.s, .slice A6 (flen l1) cap6], .nilIface]) (by simp [results, Tryz.results83, go_sem, r0, r1, r2, r3]) rfl ?_
        have hsz := ho2.size
        rw [World.heap_size_alloc', size_setCell'] at hsz
        refine nd_ok HT.out (Only.set4 (ho1.trans (ho2.trans ho3)) (Nat.le_refl _) _ _ _ _) (HR3.out.set4 (by omega) _ _ _ _) (HY3.out.set4 (by omega) _ _ _ _) ⟨hf1, A6, cap6, b6, o6, rfl, hn6, HA6.out, ?_⟩
        exact RepG.keep (fun b hb => ⟨by have := hb.1; omega, by rw [size_set4']; exact hb.2⟩) (fun b o hb => cell_set4 _ _ _ _ _ _ _ _ (by have := hb.1; omega)) hl6
    by_cases q7 : h = 7
    · subst q7
      have HK : Hid (tk (f + 1) k (x :: zs) = aboveR (tk f) 7 2 (k + 1) zs) := by show _ = _; rw [HK0.out, tkH, if_neg (by decide), if_neg (by decide), if_neg (by decide), if_pos (by decide)]; rfl
      go_wp2_with fail
      refine (above_any f (by omega) ih w2 rb A2 cap2 zs (k + 1) B 7 2 _ _ _ HDZ.out rfl rfl (by omega) (by omega) (by omega) HRD.out HBY.out hB (by omega)).mono ?_
      rintro e w3 ⟨h1, h2⟩
      cases ht : aboveR (tk f) 7 2 (k + 1) zs with
      | error er =>
        obtain ⟨rfl, ho3⟩ := h1 er ht
        have HT : Hid (tk (f + 1) k (x :: zs) = .error er) := by show _ = _; rw [HK.out]; exact ht
        clear h1 h2 ht HK
        obtain ⟨r0, r1, r2, r3, f0, f1, f2, f3⟩ := res4s (ho2.trans ho3) h0
        go_wp2_with fail
        exact bodyPost_ret (v := .tuple #[.agg #[.int .i64 0, .int .i64 0, .string ⟨#[]⟩, .slice none 0 0], .iface 61 (.int .i64 (er : Int))]) (by simp [results, Tryz.results83, go_sem, r0, r1, r2, r3]) rfl
          (nd_err HT.out (Only.set4 (ho1.trans (ho2.trans ho3)) (Nat.le_refl _) _ _ _ _))
      | ok y =>
        obtain ⟨a1, l1, k1, us⟩ := y
        obtain ⟨v, A5, cap5, rfl, ho3, hrd3, hby3, hf1, A6, cap6, b6, o6, rfl, hn6, hA6, hl6⟩ := h2 a1 l1 k1 us ht
        have HT : Hid (tk (f + 1) k (x :: zs) = .ok (a1, l1, k1, us)) := by show _ = _; rw [HK.out]; exact ht
        have HA6 : Hid (flen l1 = 0 ∨ A6 = some ⟨b6, o6, none⟩) := hA6
        have HR3 : Hid (RdAt w3 rb A5 cap5 us k1) := hrd3
        have HY3 : Hid (ByAt w3 B A5 us) := hby3
        clear h1 h2 ht HK hA6 hrd3 hby3
        obtain ⟨r0, r1, r2, r3, f0, f1, f2, f3⟩ := res4s (ho2.trans ho3) h0
        go_wp2_with fail
        refine bodyPost_ret (v := .tuple #[.agg #[.int .i64 a1.kind, .int .i64 a1.n, .string a1.s, .slice A6 (flen l1) cap6], .nilIface]) (by simp [results, Tryz.results83, go_sem, r0, r1, r2, r3]) rfl ?_
        have hsz := ho2.size
        rw [World.heap_size_alloc', size_setCell'] at hsz
        refine nd_ok HT.out (Only.set4 (ho1.trans (ho2.trans ho3)) (Nat.le_refl _) _ _ _ _) (HR3.out.set4 (by omega) _ _ _ _) (HY3.out.set4 (by omega) _ _ _ _) ⟨hf1, A6, cap6, b6, o6, rfl, hn6, HA6.out, ?_⟩
        exact RepG.keep (fun b hb => ⟨by have := hb.1; omega, by rw [size_set4']; exact hb.2⟩) (fun b o hb => cell_set4 _ _ _ _ _ _ _ _ (by have := hb.1; omega)) hl6
    have HT : Hid (tk (f + 1) k (x :: zs) = .error 2) := by show _ = _; rw [HK0.out, tkH, if_neg q1, if_neg q2, if_neg (by omega), if_neg (by omega)]
    have k1 : ((h : Int) == 1) = false := by simp; omega
    have k2 : ((h : Int) == 2) = false := by simp; omega
    have k3 : ((h : Int) == 3) = false := by simp; omega
    have k4 : ((h : Int) == 4) = false := by simp; omega
    have k5 : ((h : Int) == 5) = false := by simp; omega
    have k6 : ((h : Int) == 6) = false := by simp; omega
    have k7 : ((h : Int) == 7) = false := by simp; omega
    obtain ⟨r0, r1, r2, r3, f0, f1, f2, f3⟩ := res4s ho2 h0
    go_wp2_with fail
    exact bodyPost_ret (v := .tuple #[.agg #[.int .i64 0, .int .i64 0, .string ⟨#[]⟩, .slice none 0 0], .iface 61 (.int .i64 2)]) (by simp [results, Tryz.results83, go_sem, r0, r1, r2, r3]) rfl
      (nd_err (er := 2) HT.out (Only.set4 (ho1.trans ho2) (Nat.le_refl _) _ _ _ _))

set_option maxRecDepth 100000 in
set_option maxHeartbeats 1000000 in
theorem node_zero : NodeOk 0 := by
  intro w rb A cap xs k B dz hdz hR hy hB hk
  have hd0 : 17 ≤ dz := by omega
  have hd1 : dz ≤ 17 := by omega
  have hk3 : decide (16 < dz) = true := by simp; omega
  clear hdz
  have h0 := hR.lt
  obtain ⟨_, c0, c1, g0, g1, m0, m1⟩ := hR
  have ho1 : Only rb w ((w.setCell ⟨rb, 1, none⟩ (.int .i64 ((k : Int) + 1))).alloc (.cells #[.int .i64 0, .int .i64 0, .string ⟨#[]⟩, .slice none 0 0] 24)) := Only.alloc (Only.setCell (p := ⟨rb, 1, none⟩) (Only.refl _ _) (.inl rfl) _) _
  have HT : Hid (tk 0 k xs = .error 4) := by show tk 0 k xs = _; rw [tk]
  by_cases hk1 : 64 < k + 1
  · go_enter Tryz.func83, Tryz.ntmps83
    go_wp2_with fail
    exact bodyPost_ret (v := .tuple #[.agg #[.int .i64 0, .int .i64 0, .string ⟨#[]⟩, .slice none 0 0], .iface 61 (.int .i64 4)]) (by simp [results, Tryz.results83, go_sem, size_setCell']) rfl (nd_err (er := 4) HT.out ho1)
  have hk2 : decide (64 < (k : Int) + 1) = false := by simp; omega
  go_enter Tryz.func83, Tryz.ntmps83
  go_wp2_with fail
  exact bodyPost_ret (v := .tuple #[.agg #[.int .i64 0, .int .i64 0, .string ⟨#[]⟩, .slice none 0 0], .iface 61 (.int .i64 4)]) (by simp [results, Tryz.results83, go_sem, size_setCell']) rfl (nd_err (er := 4) HT.out ho1)

theorem node_any : ∀ f : Nat, f ≤ 16 → NodeOk f
  | 0, _ => node_zero
  | f + 1, h => node_step f (by omega) (node_any f (by omega))

end Go.Proofs.YtgmmbfnmojjbkaaGreatDoor

namespace Go.Proofs.YtgmmbfnmojjbkaaGreatDoor
open Go.RowKit
set_option linter.unusedVariables false
set_option linter.unusedSimpArgs false

abbrev zeroV : Value := .agg #[.int .i64 0, .int .i64 0, .string ⟨#[]⟩, .slice none 0 0]

def TakeEnd (w : World) (xs : List UInt8) (e : Ending) (w' : World) : Prop :=
  (∀ er, tk 16 0 xs = .error er → e = .returned (.tuple #[.agg #[.int .i64 0, .int .i64 0, .string ⟨#[]⟩, .slice none 0 0], .int .i64 0, .int .i64 (er : Int)]) ∧ Below w.heap.size w w') ∧
  (∀ a l k ys, tk 16 0 xs = .ok (a, l, k, ys) → ∃ v, e = .returned (.tuple #[v, .int .i64 ((xs.length - ys.length : Nat) : Int), .int .i64 0]) ∧ Below w.heap.size w w' ∧ RepVG w' (fun b => w.heap.size ≤ b ∧ b < w'.heap.size) a l v)

theorem tk_er {f k : Nat} {xs : List UInt8} {er : Nat} (h : tk f k xs = .error er) : 1 ≤ er ∧ er ≤ 4 := by
  have hN : ∀ {wide most er : Nat} {xs : List UInt8}, tkN wide most xs = .error er → 1 ≤ er ∧ er ≤ 4 := fun h => by
    rw [tkN] at h; split at h
    · injection h with h; omega
    · split at h
      · injection h with h; omega
      · injection h
  have hA : ∀ {er : Nat} {xs : List UInt8}, tkA xs = .error er → 1 ≤ er ∧ er ≤ 4 := fun {er xs} h => by
    rw [tkA] at h
    cases hn : tkN 2 1024 xs with
    | error e => rw [hn] at h; injection h with h; have := hN hn; omega
    | ok y =>
      obtain ⟨n, ys⟩ := y
      rw [hn] at h; simp only at h; split at h
      · injection h with h; omega
      · injection h
  induction f generalizing k xs er with
  | zero => simp [tk] at h; omega
  | succ f ih =>
    have hK : ∀ (c k : Nat) (xs : List UInt8) {er : Nat}, kidsG (tk f) c k xs = .error er → 1 ≤ er ∧ er ≤ 4 := fun c => by
      induction c with
      | zero => intro k xs er h; simp [kidsG] at h
      | succ c ihc =>
        intro k xs er h
        rw [kidsG] at h
        cases h1 : tk f k xs with
        | error e => rw [h1] at h; injection h with h; have := ih h1; omega
        | ok y =>
          obtain ⟨a, l, k1, ys⟩ := y
          rw [h1] at h; simp only at h
          cases h2 : kidsG (tk f) c k1 ys with
          | error e => rw [h2] at h; injection h with h; have := ihc _ _ h2; omega
          | ok z => rw [h2] at h; injection h
    cases xs with
    | nil => rw [tk] at h; split at h <;> (injection h with h; omega)
    | cons x zs =>
      rw [tk] at h; split at h
      · injection h with h; omega
      · rw [tkH] at h
        split at h
        · cases h1 : tkA zs with
          | error e => rw [h1] at h; injection h with h; have := hA h1; omega
          | ok y => rw [h1] at h; injection h
        · split at h
          · cases h1 : tkN 4 1073741824 zs with
            | error e => rw [h1] at h; injection h with h; have := hN h1; omega
            | ok y => rw [h1] at h; injection h
          · split at h
            · cases h1 : kidsG (tk f) 1 (k + 1) zs with
              | error e => rw [h1] at h; injection h with h; have := hK _ _ _ h1; omega
              | ok y => rw [h1] at h; injection h
            · split at h
              · cases h1 : kidsG (tk f) 2 (k + 1) zs with
                | error e => rw [h1] at h; injection h with h; have := hK _ _ _ h1; omega
                | ok y => rw [h1] at h; injection h
              · injection h with h; omega

theorem res4w {w W : World} {T : TypeId} (h : Below (w.alloc (.cells #[.int .i64 0, .int .i64 0, .string ⟨#[]⟩, .slice none 0 0] T)).heap.size (w.alloc (.cells #[.int .i64 0, .int .i64 0, .string ⟨#[]⟩, .slice none 0 0] T)) W) :
    W.cell? ⟨w.heap.size, 0, none⟩ = some (.int .i64 0) ∧ W.cell? ⟨w.heap.size, 1, none⟩ = some (.int .i64 0) ∧ W.cell? ⟨w.heap.size, 2, none⟩ = some (.string ⟨#[]⟩) ∧ W.cell? ⟨w.heap.size, 3, none⟩ = some (.slice none 0 0) ∧
      W.frozen? ⟨w.heap.size, 0, none⟩ = false ∧ W.frozen? ⟨w.heap.size, 1, none⟩ = false ∧ W.frozen? ⟨w.heap.size, 2, none⟩ = false ∧ W.frozen? ⟨w.heap.size, 3, none⟩ = false := by
  refine ⟨?_, ?_, ?_, ?_, ?_, ?_, ?_, ?_⟩
  all_goals first | rw [h.cell (by simp)] | rw [h.frozen (by simp)]
  all_goals simp [go_sem]

theorem assert_is (z : Int) (w : World) : (Instr.typeAssert (.iface 61 (.int .i64 z)) 100 61 true).run Tryz.prog w = .ok (.tuple #[.int .i64 z, .bool true]) w := by kernel_rfl
theorem assert_nil (w : World) : (Instr.typeAssert .nilIface 100 61 true).run Tryz.prog w = .ok (.tuple #[.int .i64 0, .bool false]) w := by kernel_rfl

set_option maxRecDepth 100000 in
set_option maxHeartbeats 1000000 in
theorem take_any (w : World) (A : Option Addr) (cap : Nat) (xs : List UInt8) (hy : ByAt w w.heap.size A xs) (hl : xs.length ≤ cap) (hc : cap ≤ maxLen) :
    Calls Tryz.prog 68 #[.slice A xs.length cap] w fun e w' => TakeEnd w xs e w' := by
  have hm : xs.length ≤ 9223372036854775807 := by unfold maxLen at hc; omega
  have has := assert_is
  have han := assert_nil
  go_enter Tryz.func68, Tryz.ntmps68
  go_wp2_with fail
  refine (node_any 16 (by omega) _ (w.heap.size + 1) A cap xs 0 w.heap.size 1 rfl ⟨by simp, by simp [go_sem], by simp [go_sem], by simp [go_sem], by simp [go_sem], hl, hc⟩ (hy.keep (Nat.le_refl _) (fun b o hb => by rw [World.cell?_alloc_past _ _ _ (by simp; omega), World.cell?_alloc_past _ _ _ (by omega)])) (by omega) (by omega)).mono ?_
  rintro e w2 ⟨h1, h2⟩
  have hsz0 : ∀ o : Obj, (w.alloc o).heap.size = w.heap.size + 1 := fun o => by simp
  cases ht : tk 16 0 xs with
  | error er =>
    obtain ⟨rfl, ho2⟩ := h1 er ht
    have HT : Hid (tk 16 0 xs = .error er) := ht
    have her := tk_er ht
    clear h1 h2 ht
    have hq : ∀ o, w2.cell? ⟨w.heap.size, o, none⟩ = (#[Value.int .i64 0, .int .i64 0, .string ⟨#[]⟩, .slice none 0 0] : Array Value)[o]? := fun o => by
      rw [ho2.cell (by simp; omega) (by simp)]; rw [World.cell?_alloc_past _ _ _ (by simp)]; simp [go_sem]
    have hqf : ∀ o, w2.frozen? ⟨w.heap.size, o, none⟩ = false := fun o => by
      rw [ho2.frozen (by simp; omega) (by simp)]; rw [World.frozen?_alloc_past _ _ _ (by simp)]; simp [go_sem]
    have r0 : w2.cell? ⟨w.heap.size, 0, none⟩ = some (.int .i64 0) := by rw [hq]; rfl
    have r1 : w2.cell? ⟨w.heap.size, 1, none⟩ = some (.int .i64 0) := by rw [hq]; rfl
    have r2 : w2.cell? ⟨w.heap.size, 2, none⟩ = some (.string ⟨#[]⟩) := by rw [hq]; rfl
    have r3 : w2.cell? ⟨w.heap.size, 3, none⟩ = some (.slice none 0 0) := by rw [hq]; rfl
    have f0 := hqf 0
    have f1 := hqf 1
    have f2 := hqf 2
    have f3 := hqf 3
    have hsz := ho2.size
    simp only [World.heap_size_alloc'] at hsz
    have hlt : w.heap.size < w2.heap.size := by omega
    clear hq hqf
    go_wp2_with fail
    refine bodyPost_ret (v := .tuple #[.agg #[.int .i64 0, .int .i64 0, .string ⟨#[]⟩, .slice none 0 0], .int .i64 0, .int .i64 (er : Int)]) (by simp [results, Tryz.results68, go_sem, r0, r1, r2, r3, hlt]) rfl ⟨?_, ?_⟩
    · intro er' he
      rw [HT.out] at he; injection he with he; subst he
      refine ⟨rfl, Only.toBelow (b := w.heap.size + 1) (Only.alloc (Only.set4 ((Only.alloc (Only.alloc (Only.refl _ _) _) _).trans ho2) (Nat.le_refl _) _ _ _ _) _) (by omega) (Nat.le_refl _)⟩
    · intro a l k ys he; rw [HT.out] at he; injection he
  | ok y =>
    obtain ⟨a, l, k, ys⟩ := y
    obtain ⟨v, A2, cap2, rfl, ho2, hrd, hby, hf1, A3, cap3, b3, o3, rfl, hn3, hA3, hl3⟩ := h2 a l k ys ht
    have HT : Hid (tk 16 0 xs = .ok (a, l, k, ys)) := ht
    have hly : ys.length ≤ xs.length := by rw [(tk_only ht).1]; simp
    have HA3 : Hid (flen l = 0 ∨ A3 = some ⟨b3, o3, none⟩) := hA3
    have z0 := hrd.c0
    clear h1 h2 ht hA3 hby
    have hq : ∀ o, w2.cell? ⟨w.heap.size, o, none⟩ = (#[Value.int .i64 0, .int .i64 0, .string ⟨#[]⟩, .slice none 0 0] : Array Value)[o]? := fun o => by
      rw [ho2.cell (by simp; omega) (by simp)]; rw [World.cell?_alloc_past _ _ _ (by simp)]; simp [go_sem]
    have hqf : ∀ o, w2.frozen? ⟨w.heap.size, o, none⟩ = false := fun o => by
      rw [ho2.frozen (by simp; omega) (by simp)]; rw [World.frozen?_alloc_past _ _ _ (by simp)]; simp [go_sem]
    have r0 : w2.cell? ⟨w.heap.size, 0, none⟩ = some (.int .i64 0) := by rw [hq]; rfl
    have r1 : w2.cell? ⟨w.heap.size, 1, none⟩ = some (.int .i64 0) := by rw [hq]; rfl
    have r2 : w2.cell? ⟨w.heap.size, 2, none⟩ = some (.string ⟨#[]⟩) := by rw [hq]; rfl
    have r3 : w2.cell? ⟨w.heap.size, 3, none⟩ = some (.slice none 0 0) := by rw [hq]; rfl
    have f0 := hqf 0
    have f1 := hqf 1
    have f2 := hqf 2
    have f3 := hqf 3
    have hsz := ho2.size
    simp only [World.heap_size_alloc'] at hsz
    have hlt : w.heap.size < w2.heap.size := by omega
    clear hq hqf
    have hl4 : RepG w2 (fun b => w.heap.size + 1 + 1 ≤ b ∧ b < w2.heap.size) l b3 o3 := by
      refine RepG.keep (fun b hb => ?_) (fun _ _ _ => rfl) hl3
      have h1 := hb.1
      simp only [World.heap_size_alloc'] at h1
      exact ⟨h1, hb.2⟩
    clear hl3
    have hlt1 : w.heap.size + 1 < w2.heap.size := by omega
    go_wp2_with fail
    go_region
    all_goals go_wp2_with fail
    refine bodyPost_ret (v := .tuple #[.agg #[.int .i64 a.kind, .int .i64 a.n, .string a.s, .slice A3 (flen l) cap3], .int .i64 ((xs.length : Int) - (ys.length : Int)), .int .i64 0]) (by simp [results, Tryz.results68, go_sem, r0, r1, r2, r3, hlt]) rfl ⟨?_, ?_⟩
    · intro er he; rw [HT.out] at he; injection he
    · intro a' l' k' ys' he
      rw [HT.out] at he; injection he with he; injection he with e1 he; injection he with e2 he; injection he with e3 e4; subst e1 e2 e3 e4
      refine ⟨_, by rw [show ((xs.length - ys.length : Nat) : Int) = (xs.length : Int) - (ys.length : Int) from by omega], Only.toBelow (b := w.heap.size + 1) (by first | exact Only.drew (Only.alloc (Only.set4 ((Only.alloc (Only.alloc (Only.refl _ _) _) _).trans ho2) (Nat.le_refl _) _ _ _ _) _) | exact Only.alloc (Only.set4 (Only.drew ((Only.alloc (Only.alloc (Only.refl _ _) _) _).trans ho2)) (Nat.le_refl _) _ _ _ _) _ | exact Only.alloc (Only.drew (Only.set4 ((Only.alloc (Only.alloc (Only.refl _ _) _) _).trans ho2) (Nat.le_refl _) _ _ _ _)) _ | exact Only.drewN (Only.alloc (Only.set4 ((Only.alloc (Only.alloc (Only.refl _ _) _) _).trans ho2) (Nat.le_refl _) _ _ _ _) _) _) (by omega) (Nat.le_refl _), hf1, A3, cap3, b3, o3, rfl, hn3, HA3.out, ?_⟩
      refine RepG.keep ?hS ?hC hl4
      case hS =>
        intro b hb
        have h1 := hb.1
        have h2 := hb.2
        exact ⟨by omega, by simp [World.setCell]; omega⟩
      case hC =>
        intro b o hb
        have h1 := hb.1
        have h2 := hb.2
        rw [World.cell?_drew, World.cell?_alloc_past _ _ _ (by simp [World.setCell]; omega), cell_set4 _ _ _ _ _ _ _ _ (by omega)]

def OneEnd (w : World) (xs : List UInt8) (e : Ending) (w' : World) : Prop :=
  (∀ er, oneB xs = .error er → e = .returned (.tuple #[.agg #[.int .i64 0, .int .i64 0, .string ⟨#[]⟩, .slice none 0 0], .int .i64 (er : Int)]) ∧ Below w.heap.size w w') ∧
  (∀ a l, oneB xs = .ok (a, l) → ∃ v, e = .returned (.tuple #[v, .int .i64 0]) ∧ Below w.heap.size w w' ∧ RepVG w' (fun b => w.heap.size ≤ b ∧ b < w'.heap.size) a l v)

set_option maxRecDepth 100000 in
set_option maxHeartbeats 1000000 in
theorem codeOne_any (w : World) (A : Option Addr) (cap : Nat) (xs : List UInt8) (hy : ByAt w w.heap.size A xs) (hl : xs.length ≤ cap) (hc : cap ≤ maxLen) :
    Calls Tryz.prog 50 #[.slice A xs.length cap] w fun e w' => OneEnd w xs e w' := by
  have hm : xs.length ≤ 9223372036854775807 := by unfold maxLen at hc; omega
  go_enter Tryz.func50, Tryz.ntmps50
  go_wp2_with fail
  have hb0 : ∀ T : Obj, Below w.heap.size w (w.alloc T) := fun T => Below.alloc (Below.refl _ _) (Nat.le_refl _) _
  refine (take_any _ A cap xs (hy.keep (by simp) (fun b o hb => World.cell?_alloc_past _ _ _ (by omega))) hl hc).mono ?_
  rintro e w2 ⟨h1, h2⟩
  cases ht : tk 16 0 xs with
  | error er =>
    obtain ⟨rfl, ho2⟩ := h1 er ht
    have HT : Hid (oneB xs = .error er) := by show oneB xs = _; rw [oneB, ht]
    have her := tk_er ht
    clear h1 h2 ht
    obtain ⟨r0, r1, r2, r3, f0, f1, f2, f3⟩ := res4w ho2
    have hsz := ho2.size
    simp only [World.heap_size_alloc'] at hsz
    have hlt : w.heap.size < w2.heap.size := by omega
    have hb2 : Below w.heap.size w w2 := (hb0 _).trans (ho2.mono (by simp))
    have hne : ((er : Int) == 0) = false := by simp; omega
    have hne' : ((er : Int) != 0) = true := by simp; omega
    go_wp2_with fail
    refine bodyPost_ret (v := .tuple #[.agg #[.int .i64 0, .int .i64 0, .string ⟨#[]⟩, .slice none 0 0], .int .i64 (er : Int)]) (by simp [results, Tryz.results50, go_sem, r0, r1, r2, r3, hlt]) rfl ⟨?_, ?_⟩
    · intro er' he
      rw [HT.out] at he; injection he with he; subst he
      exact ⟨rfl, (by repeat (first | exact Below.refl _ _ | assumption | refine below_drewN ?_ _ | refine Below.drew ?_ | refine Below.alloc ?_ (by simp <;> omega) _ | refine Below.setCell ?_ (by simp <;> omega) _))⟩
    · intro a l he; rw [HT.out] at he; injection he
  | ok y =>
    obtain ⟨a, l, k, ys⟩ := y
    obtain ⟨v, rfl, ho2, hf1, A3, cap3, b3, o3, rfl, hn3, hA3, hl3⟩ := h2 a l k ys ht
    have HT : Hid (oneB xs = if 0 < ys.length then .error 5 else .ok (a, l)) := by show oneB xs = _; rw [oneB, ht]
    have hly : ys.length ≤ xs.length := by rw [(tk_only ht).1]; simp
    have HA3 : Hid (flen l = 0 ∨ A3 = some ⟨b3, o3, none⟩) := hA3
    clear h1 h2 ht hA3
    obtain ⟨r0, r1, r2, r3, f0, f1, f2, f3⟩ := res4w ho2
    have hsz := ho2.size
    simp only [World.heap_size_alloc'] at hsz hl3
    have hlt : w.heap.size < w2.heap.size := by omega
    have hb2 : Below w.heap.size w w2 := (hb0 _).trans (ho2.mono (by simp))
    by_cases hl5 : 0 < ys.length
    · go_wp2_with fail
      refine bodyPost_ret (v := .tuple #[.agg #[.int .i64 0, .int .i64 0, .string ⟨#[]⟩, .slice none 0 0], .int .i64 5]) (by simp [results, Tryz.results50, go_sem, r0, r1, r2, r3, hlt]) rfl ⟨?_, ?_⟩
      · intro er' he
        rw [HT.out, if_pos hl5] at he; injection he with he; subst he
        exact ⟨rfl, (by repeat (first | exact Below.refl _ _ | assumption | refine below_drewN ?_ _ | refine Below.drew ?_ | refine Below.alloc ?_ (by simp <;> omega) _ | refine Below.setCell ?_ (by simp <;> omega) _))⟩
      · intro a l he; rw [HT.out, if_pos hl5] at he; injection he
    · have hy0 : ys.length = 0 := by omega
      rw [hy0, Nat.sub_zero]
      have hlt0 : decide ((xs.length : Int) < (xs.length : Int)) = false := by simp
      go_wp2_with fail
      refine bodyPost_ret (v := .tuple #[.agg #[.int .i64 a.kind, .int .i64 a.n, .string a.s, .slice A3 (flen l) cap3], .int .i64 0]) (by simp [results, Tryz.results50, go_sem, r0, r1, r2, r3, hlt]) rfl ⟨?_, ?_⟩
      · intro er he; rw [HT.out, if_neg hl5] at he; injection he
      · intro a' l' he
        rw [HT.out, if_neg hl5] at he; injection he with he; injection he with e1 e2; subst e1 e2
        refine ⟨_, rfl, (by repeat (first | exact Below.refl _ _ | assumption | refine below_drewN ?_ _ | refine Below.drew ?_ | refine Below.alloc ?_ (by simp <;> omega) _ | refine Below.setCell ?_ (by simp <;> omega) _)), hf1, A3, cap3, b3, o3, rfl, hn3, HA3.out, ?_⟩
        refine RepG.keep ?hS ?hC hl3
        case hS =>
          intro b hb
          have h1 := hb.1
          have h2 := hb.2
          exact ⟨by omega, by simp [World.setCell]; omega⟩
        case hC =>
          intro b o hb
          have h1 := hb.1
          have h2 := hb.2
          rw [World.cell?_alloc_past _ _ _ (by simp [World.setCell]; omega), cell_set4 _ _ _ _ _ _ _ _ (by omega)]

end Go.Proofs.YtgmmbfnmojjbkaaGreatDoor
