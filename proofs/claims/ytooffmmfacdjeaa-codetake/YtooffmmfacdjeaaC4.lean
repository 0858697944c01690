import Derived.Test.YtooffmmfacdjeaaC1
import Derived.Laws.BitsAllLaws
namespace Go.Proofs.Ytooffmmfacdjeaa
open Go.RowKit
set_option linter.unusedVariables false
set_option linter.unusedSimpArgs false

/-- The bytes xs lie from A on, in a block below B. -/
def ByAt (w : World) (B : Nat) (A : Option Addr) (xs : List UInt8) : Prop :=
  xs = [] ∨ ∃ b o, A = some ⟨b, o, none⟩ ∧ b < B ∧ ∀ i, i < xs.length → w.cell? ⟨b, o + i, none⟩ = some (.int .u8 ((xs.getD i 0).toNat : Int))

theorem ByAt.keep {w w' : World} {B B' : Nat} {A : Option Addr} {xs : List UInt8} (h : ByAt w B A xs) (hB : B ≤ B') (hk : ∀ b o, b < B → w'.cell? ⟨b, o, none⟩ = w.cell? ⟨b, o, none⟩) : ByAt w' B' A xs := by
  rcases h with h | ⟨b, o, e, hb, hc⟩
  · exact .inl h
  · exact .inr ⟨b, o, e, by omega, fun i hi => by rw [hk _ _ hb]; exact hc i hi⟩
theorem ByAt.below {w w' : World} {B : Nat} {A : Option Addr} {xs : List UInt8} (h : ByAt w B A xs) (hb : Below B w w') : ByAt w' B A xs := h.keep (Nat.le_refl _) (fun _ _ h => hb.cell h)

theorem ByAt.take {w : World} {B : Nat} {A : Option Addr} {xs : List UInt8} (h : ByAt w B A xs) (c : Nat) : ByAt w B A (xs.take c) := by
  rcases h with h | ⟨b, o, e, hb, hc⟩
  · exact .inl (by rw [h, List.take_nil])
  · refine .inr ⟨b, o, e, hb, fun i hi => ?_⟩
    rw [List.length_take] at hi
    rw [hc i (by omega)]
    simp [List.getD, List.getElem?_take_of_lt (show i < c by omega)]

theorem ByAt.drop {w : World} {B : Nat} {A : Option Addr} {xs : List UInt8} (h : ByAt w B A xs) (c cap : Nat) (hc : c ≤ xs.length) (hl : xs.length ≤ cap) : ByAt w B (if cap = c then A else A.map (·.add c)) (xs.drop c) := by
  rcases h with h | ⟨b, o, e, hb, hx⟩
  · exact .inl (by rw [h, List.drop_nil])
  · by_cases h1 : cap = c
    · exact .inl (List.drop_of_length_le (by omega))
    · rw [if_neg h1, e]
      refine .inr ⟨b, o + c, ?_, hb, fun i hi => ?_⟩
      · cases c <;> simp [Addr.add]
      · rw [List.length_drop] at hi
        rw [Nat.add_assoc, hx (c + i) (by omega)]
        simp [List.getD]

/-- The reader of package code in block rb. -/
structure RdAt (w : World) (rb : Nat) (A : Option Addr) (cap : Nat) (xs : List UInt8) (k : Nat) : Prop where
  lt : rb < w.heap.size
  c0 : w.cell? ⟨rb, 0, none⟩ = some (.slice A xs.length cap)
  c1 : w.cell? ⟨rb, 1, none⟩ = some (.int .i64 (k : Int))
  f0 : w.frozen? ⟨rb, 0, none⟩ = false
  f1 : w.frozen? ⟨rb, 1, none⟩ = false
  cap' : xs.length ≤ cap
  max' : cap ≤ maxLen

theorem RdAt.keep {w w' : World} {rb : Nat} {A : Option Addr} {cap : Nat} {xs : List UInt8} {k : Nat} (h : RdAt w rb A cap xs k) (hk : Below w.heap.size w w') : RdAt w' rb A cap xs k :=
  ⟨Nat.lt_of_lt_of_le h.lt hk.size, by rw [hk.cell h.lt]; exact h.c0, by rw [hk.cell h.lt]; exact h.c1, by rw [hk.frozen h.lt]; exact h.f0, by rw [hk.frozen h.lt]; exact h.f1, h.cap', h.max'⟩

set_option maxRecDepth 100000 in
set_option maxHeartbeats 1000000 in
theorem rbytes_short (w : World) (rb : Nat) (A : Option Addr) (cap : Nat) (xs : List UInt8) (k : Nat) (c : Nat) (cz : Int) (hcz : cz = (c : Int)) (h : RdAt w rb A cap xs k) (hc : xs.length < c) :
    Calls Try.prog 60 #[.pointer (some ⟨rb, 0, none⟩), .int .i64 cz] w fun e w' => e = .returned (.tuple #[.slice none 0 0, .iface 36 (.int .i64 1)]) ∧ w' = w := by
  subst hcz
  obtain ⟨h0, h1, h2, h3, h4, h5, h6⟩ := h
  unfold maxLen at h6
  go_enter Try.func60, Try.ntmps60
  go_wp2_with fail
  exact bodyPost_ret (v := .tuple #[.slice none 0 0, .iface 36 (.int .i64 1)]) (by simp [results, Try.results60, go_sem]) rfl ⟨rfl, rfl⟩

def RbEnd (w : World) (rb B c : Nat) (xs : List UInt8) (k : Nat) (e : Ending) (w' : World) : Prop :=
  ∃ A1 A2 cap2, e = .returned (.tuple #[.slice A1 c c, .nilIface]) ∧ Only rb w w' ∧ RdAt w' rb A2 cap2 (xs.drop c) k ∧ ByAt w' B A1 (xs.take c) ∧ ByAt w' B A2 (xs.drop c)

theorem rb_set {w : World} {rb : Nat} {A : Option Addr} {cap : Nat} {xs : List UInt8} {k B c : Nat} (h : RdAt w rb A cap xs k) (hy : ByAt w B A xs) (hB : B ≤ rb) (hc : c ≤ xs.length) (A2 : Option Addr) (hA2 : A2 = if cap = c then A else A.map (·.add c)) :
    RbEnd w rb B c xs k (.returned (.tuple #[.slice A c c, .nilIface])) (w.setCell ⟨rb, 0, none⟩ (.slice A2 (xs.length - c) (cap - c))) := by
  have ho : Only rb w (w.setCell ⟨rb, 0, none⟩ (.slice A2 (xs.length - c) (cap - c))) := Only.setCell (p := ⟨rb, 0, none⟩) (Only.refl _ _) (.inl rfl) _
  have hk : ∀ b o, b < B → (w.setCell ⟨rb, 0, none⟩ (.slice A2 (xs.length - c) (cap - c))).cell? ⟨b, o, none⟩ = w.cell? ⟨b, o, none⟩ := fun b o hb => ho.cell (by have := h.lt; simp; omega) (by simp; omega)
  have hcell : w.cell? ⟨rb, 0, none⟩ = some (.slice A xs.length cap) := h.c0
  refine ⟨A, A2, cap - c, rfl, ho, ⟨?_, ?_, ?_, ?_, ?_, ?_, ?_⟩, (hy.take c).keep (Nat.le_refl _) hk, ?_⟩
  · have := h.lt; simpa [World.setCell] using this
  · have := h.lt; simp [go_sem, h.c0, List.length_drop, this]
  · rw [World.cell?_setCell_other]
    · exact h.c1
    · intro e; injection e with _ e; omega
  · have := h.lt; simp [go_sem, h.f0, this]
  · have := h.lt; simp [go_sem, h.f1, this]
  · rw [List.length_drop]; have := h.cap'; omega
  · have := h.max'; omega
  · have hd : ByAt w B A2 (xs.drop c) := by rw [hA2]; exact hy.drop c cap hc h.cap'
    exact hd.keep (Nat.le_refl _) hk

set_option maxRecDepth 100000 in
set_option maxHeartbeats 1000000 in
theorem rbytes_ok (w : World) (rb : Nat) (A : Option Addr) (cap : Nat) (xs : List UInt8) (k B : Nat) (c : Nat) (cz : Int) (hcz : cz = (c : Int)) (h : RdAt w rb A cap xs k) (hy : ByAt w B A xs) (hB : B ≤ rb) (hc : c ≤ xs.length) :
    Calls Try.prog 60 #[.pointer (some ⟨rb, 0, none⟩), .int .i64 cz] w fun e w' => RbEnd w rb B c xs k e w' := by
  subst hcz
  have H := h
  obtain ⟨h0, h1, h2, h3, h4, h5, h6⟩ := h
  unfold maxLen at h6
  go_enter Try.func60, Try.ntmps60
  go_wp2_with fail
  all_goals refine bodyPost_ret (v := .tuple #[.slice A c c, .nilIface]) (by simp [results, Try.results60, go_sem]) rfl ?_
  · have := rb_set (c := c) H hy hB hc A (by rw [if_pos h])
    rwa [h, Nat.sub_self] at this
  · exact rb_set (c := c) H hy hB hc _ (by rw [if_neg h])

theorem i64_or_byte (a d : Nat) (ha : a < 1099511627776) (hd : d < 256) : bits .or .i64 ((a : Int) * 256) (d : Int) = ((a * 256 + d : Nat) : Int) := by
  rw [show (a : Int) * 256 = ((a * 256 : Nat) : Int) from by omega]
  show IntKind.i64.wrap ((BitVec.ofInt 64 ((a * 256 : Nat) : Int) ||| BitVec.ofInt 64 (d : Int)).toNat : Int) = _
  have e : a * 256 ||| d = a * 256 + d := by
    have := Nat.two_pow_add_eq_or_of_lt (i := 8) (b := d) (by omega) a
    rw [show 2 ^ 8 * a = a * 256 from by omega] at this
    exact this.symm
  rw [BitVec.toNat_or, ofInt_u64 _ (by omega), ofInt_u64 _ (by omega), e, IntKind.wrap_i64]
  omega

theorem unBe_snoc (xs : List UInt8) (x : UInt8) : unBe (xs ++ [x]) = unBe xs * 256 + x.toNat := by simp [unBe]
theorem unBe_take (xs : List UInt8) (i : Nat) (h : i < xs.length) : unBe (xs.take (i + 1)) = unBe (xs.take i) * 256 + (xs.getD i 0).toNat := by
  rw [List.take_succ_eq_append_getElem h, unBe_snoc]
  simp [List.getD, List.getElem?_eq_getElem h]
theorem unBe_small (xs : List UInt8) : ∀ i, i ≤ xs.length → unBe (xs.take i) < 256 ^ i
  | 0, _ => by simp [unBe]
  | i + 1, h => by
    have h1 := unBe_small xs i (by omega)
    have h2 := (xs.getD i 0).toNat_lt
    rw [unBe_take xs i (by omega), Nat.pow_succ]
    omega

def RnEnd (w : World) (rb B wide most : Nat) (xs : List UInt8) (k : Nat) (e : Ending) (w' : World) : Prop :=
  (∀ er, tkN wide most xs = .error er → e = .returned (.tuple #[.int .i64 0, .iface 36 (.int .i64 (er : Int))]) ∧ Only rb w w') ∧
  (∀ n ys, tkN wide most xs = .ok (n, ys) → ∃ A2 cap2, e = .returned (.tuple #[.int .i64 (n : Int), .nilIface]) ∧ Only rb w w' ∧ RdAt w' rb A2 cap2 ys k ∧ ByAt w' B A2 ys)

set_option maxRecDepth 100000 in
set_option maxHeartbeats 1000000 in
theorem rnum_any (w : World) (rb : Nat) (A : Option Addr) (cap : Nat) (xs : List UInt8) (k B : Nat) (wide most : Nat) (wz mz : Int) (hwz : wz = (wide : Int)) (hmz : mz = (most : Int)) (hw : wide ≤ 4) (h : RdAt w rb A cap xs k) (hy : ByAt w B A xs) (hB : B ≤ rb) :
    Calls Try.prog 62 #[.pointer (some ⟨rb, 0, none⟩), .int .i64 wz, .int .i64 mz] w fun e w' => RnEnd w rb B wide most xs k e w' := by
  subst hwz hmz
  by_cases hl : xs.length < wide
  · have ht : tkN wide most xs = .error 1 := by rw [tkN, if_pos hl]
    go_enter Try.func62, Try.ntmps62
    go_wp2_with fail
    refine (rbytes_short w rb A cap xs k wide _ rfl h hl).mono ?_
    rintro e w1 ⟨rfl, rfl⟩
    go_wp2_with fail
    refine bodyPost_ret (v := .tuple #[.int .i64 0, .iface 36 (.int .i64 1)]) (by simp [results, Try.results62, go_sem]) rfl ⟨?_, ?_⟩
    · intro er he; rw [ht] at he; injection he with he; subst he; exact ⟨rfl, Only.refl _ _⟩
    · intro n ys he; rw [ht] at he; injection he
  · have HH : Hid (¬ xs.length < wide) := hl
    go_enter Try.func62, Try.ntmps62
    go_wp2_with fail
    refine (rbytes_ok w rb A cap xs k B wide _ rfl h hy hB (by omega)).mono ?_
    rintro e w1 ⟨A1, A2, cap2, rfl, ho, hrd, hb1, hb2⟩
    have HR : Hid (RdAt w1 rb A2 cap2 (xs.drop wide) k) := hrd
    have HB2 : Hid (ByAt w1 B A2 (xs.drop wide)) := hb2
    have HB1 : Hid (ByAt w1 B A1 (xs.take wide)) := hb1
    clear hrd hb1 hb2
    go_wp2_with fail
    go_loopw [10, 24] (fun nv iv wr => ∃ (i : Nat), i ≤ wide ∧ iv = .int .i64 (i : Int) ∧ nv = .int .i64 ((unBe ((xs.take wide).take i) : Nat) : Int) ∧ wr = w1) (fun _ iv _ => wide - (intOf iv).toNat)
    case atStart => exact ⟨0, by omega, rfl, rfl, rfl⟩
    case round =>
      obtain ⟨i, hi, rfl, rfl, rfl⟩ := hrel
      by_cases hi2 : (i : Int) < (wide : Int)
      · have hd : (xs.take wide).length = wide := by rw [List.length_take]; have := HH.out; omega
        obtain ⟨bb, oo, rfl, hbb, hcc⟩ : ∃ b o, A1 = some ⟨b, o, none⟩ ∧ b < B ∧ ∀ i, i < (xs.take wide).length → wr.cell? ⟨b, o + i, none⟩ = some (.int .u8 (((xs.take wide).getD i 0).toNat : Int)) := by
          rcases HB1.out with h | h
          · rw [h] at hd; simp at hd; omega
          · exact h
        have hci := hcc i (by omega)
        clear hcc
        have hbd : ((xs.take wide).getD i 0).toNat < 256 := ((xs.take wide).getD i 0).toNat_lt
        have hun := unBe_small (xs.take wide) i (by omega)
        have hun' : unBe ((xs.take wide).take i) < 16777216 := Nat.lt_of_lt_of_le hun (Nat.le_trans (Nat.pow_le_pow_right (by decide) (show i ≤ 3 by omega)) (by decide))
        have hsn := unBe_take (xs.take wide) i (by omega)
        have Hsn : Hid (unBe ((xs.take wide).take (i + 1)) = unBe ((xs.take wide).take i) * 256 + ((xs.take wide).getD i 0).toNat) := hsn
        clear hsn hun
        generalize (xs.take wide).getD i 0 = dg at *
        obtain ⟨un, hun0⟩ : ∃ un, un = unBe ((xs.take wide).take i) := ⟨_, rfl⟩
        rw [← hun0] at hun' ⊢
        have Hun : Hid (un = unBe ((xs.take wide).take i)) := hun0
        clear hun0
        go_wp2_with fail
        go_roundw
        case rel =>
          refine ⟨i + 1, by omega, by go_num, ?_, trivial⟩
          have hor := i64_or_byte un dg.toNat (by omega) (by omega)
          have w1 : wrap64 ((un : Int) * 256) = (un : Int) * 256 := IntWalk.wrap64_in _ (by omega)
          have w2 : wrap64 ((dg.toNat : Nat) : Int) = ((dg.toNat : Nat) : Int) := IntWalk.wrap64_in _ (by omega)
          rw [Hsn.out, ← Hun.out]
          first | rw [hor] | rw [w1, w2, hor] | rw [w1, hor] | rw [w2, hor]
        case measure => simp [intOf]; omega
      · obtain rfl : i = wide := by omega
        have ht : tkN i most xs = if most < unBe (xs.take i) then .error 3 else .ok (unBe (xs.take i), xs.drop i) := by rw [tkN, if_neg HH.out]
        have hun := unBe_small (xs.take i) i (by rw [List.length_take]; have := HH.out; omega)
        have hun' : unBe ((xs.take i).take i) < 4294967296 := Nat.lt_of_lt_of_le hun (Nat.le_trans (Nat.pow_le_pow_right (by decide) (show i ≤ 4 by omega)) (by decide))
        rw [List.take_take, Nat.min_self] at hun' ⊢
        have HT : Hid (tkN i most xs = if most < unBe (xs.take i) then .error 3 else .ok (unBe (xs.take i), xs.drop i)) := ht
        clear ht hun
        obtain ⟨un, hun0⟩ : ∃ un, un = unBe (xs.take i) := ⟨_, rfl⟩
        rw [← hun0] at hun' ⊢
        have Hun : Hid (un = unBe (xs.take i)) := hun0
        clear hun0
        by_cases hm : most < un
        · go_wp2_with fail
          refine bodyPost_ret (v := .tuple #[.int .i64 0, .iface 36 (.int .i64 3)]) (by simp [results, Try.results62, go_sem]) rfl ⟨?_, ?_⟩
          · intro er he; rw [HT.out, if_pos (by rw [← Hun.out]; exact hm)] at he; injection he with he; subst he; exact ⟨rfl, ho⟩
          · intro n ys he; rw [HT.out, if_pos (by rw [← Hun.out]; exact hm)] at he; injection he
        · go_wp2_with fail
          refine bodyPost_ret (v := .tuple #[.int .i64 (un : Int), .nilIface]) (by simp [results, Try.results62, go_sem]) rfl ⟨?_, ?_⟩
          · intro er he; rw [HT.out, if_neg (by rw [← Hun.out]; exact hm)] at he; injection he
          · intro n ys he; rw [HT.out, if_neg (by rw [← Hun.out]; exact hm)] at he; injection he with he; injection he with he1 he2; subst he2; rw [← he1, ← Hun.out]; exact ⟨A2, cap2, rfl, ho, HR.out, HB2.out⟩

end Go.Proofs.Ytooffmmfacdjeaa
