import Derived.Test.YtgmmbfnmojjbkaaGreatDoorW2
namespace Go.Proofs.YtgmmbfnmojjbkaaGreatDoor
open Go.RowKit
set_option linter.unusedVariables false
set_option linter.unusedSimpArgs false

set_option maxHeartbeats 400000 in
theorem refA_any (s : ByteArray) (w : World) :
    Calls Tryz.prog 26 #[.string s] w fun e w' => e = .returned (.agg #[.int .i64 1, .int .i64 0, .string s, .slice none 0 0]) ∧ Below w.heap.size w w' := by
  go_enter Tryz.func26, Tryz.ntmps26
  go_wp2_with fail
  exact bodyPost_ret (v := .agg #[.int .i64 1, .int .i64 0, .string s, .slice none 0 0]) (by simp [results, Tryz.results26, go_sem]) rfl ⟨rfl, (by repeat (first | exact Below.refl _ _ | assumption | refine below_drewN ?_ _ | refine Below.drew ?_ | refine Below.alloc ?_ (by simp <;> omega) _ | refine Below.setCell ?_ (by simp <;> omega) _))⟩

set_option maxHeartbeats 400000 in
theorem refN_any (n : Int) (w : World) :
    Calls Tryz.prog 30 #[.int .i64 n] w fun e w' => e = .returned (.agg #[.int .i64 2, .int .i64 n, .string ByteArray.empty, .slice none 0 0]) ∧ Below w.heap.size w w' := by
  go_enter Tryz.func30, Tryz.ntmps30
  go_wp2_with fail
  exact bodyPost_ret (v := .agg #[.int .i64 2, .int .i64 n, .string ByteArray.empty, .slice none 0 0]) (by simp [results, Tryz.results30, go_sem]; rfl) rfl ⟨rfl, (by repeat (first | exact Below.refl _ _ | assumption | refine below_drewN ?_ _ | refine Below.drew ?_ | refine Below.alloc ?_ (by simp <;> omega) _ | refine Below.setCell ?_ (by simp <;> omega) _))⟩

set_option maxHeartbeats 400000 in
theorem refT_any (k : Int) (A : Option Addr) (len cap : Nat) (w : World) :
    Calls Tryz.prog 43 #[.int .i64 k, .slice A len cap] w fun e w' => e = .returned (.agg #[.int .i64 k, .int .i64 0, .string ByteArray.empty, .slice A len cap]) ∧ Below w.heap.size w w' := by
  go_enter Tryz.func43, Tryz.ntmps43
  go_wp2_with fail
  exact bodyPost_ret (v := .agg #[.int .i64 k, .int .i64 0, .string ByteArray.empty, .slice A len cap]) (by simp [results, Tryz.results43, go_sem]; rfl) rfl ⟨rfl, (by repeat (first | exact Below.refl _ _ | assumption | refine below_drewN ?_ _ | refine Below.drew ?_ | refine Below.alloc ?_ (by simp <;> omega) _ | refine Below.setCell ?_ (by simp <;> omega) _))⟩

/-- The texts and numbers that a tape picks of. -/
def tapeStrs : List ByteArray := [⟨#[]⟩, ⟨#[97]⟩, ⟨#[98]⟩, ⟨#[97, 98]⟩, ⟨#[0]⟩, ⟨#[126]⟩, ⟨#[97, 108, 105, 99, 101]⟩, ⟨#[99, 49]⟩, ⟨#[126, 65, 103, 65, 65, 65, 65, 69, 126]⟩]
def tapeNums : List Int := [1, 2, 3, 4, 5, 0, 300, 1073741824]

theorem pick9 (w : World) (tb B : Nat) (LA : Option Addr) (ns : List Int) (cap k sb sc : Nat) (ht : TapeAt w tb LA ns.length cap k) (hB : B ≤ tb) (hns : NumsAt w B ns LA) (hf : NumsFit ns) (hk : k ≤ ns.length)
    (hne : sb ≠ tb) (hsb : sb < w.heap.size) (hss : ∀ i, i < 9 → w.cell? ⟨sb, i, none⟩ = some (.string (tapeStrs.getD i ByteArray.empty))) :
    Calls Tryz.prog 25 #[.pointer (some ⟨tb, 0, none⟩), .slice (some ⟨sb, 0, none⟩) 9 sc] w fun e w' =>
      e = .returned (.string (tapeStrs.getD (nextV ns k 9).toNat ByteArray.empty)) ∧ Only tb w w' ∧ TapeAt w' tb LA ns.length cap (nextK ns k 9) :=
  pick_any w tb B LA ns cap k sb tapeStrs sc ht hB hns hf hk (by decide) (by decide) hne hsb hss

theorem tapeStrs_at (i : Nat) (hi : i < 9) : [Value.string ⟨#[]⟩, Value.string ⟨#[97]⟩, Value.string ⟨#[98]⟩, Value.string ⟨#[97, 98]⟩, Value.string ⟨#[0]⟩, Value.string ⟨#[126]⟩, Value.string ⟨#[97, 108, 105, 99, 101]⟩, Value.string ⟨#[99, 49]⟩,
    Value.string ⟨#[126, 65, 103, 65, 65, 65, 65, 69, 126]⟩][i]? = some (Value.string (tapeStrs[i]?.getD ByteArray.empty)) := by
  have : i = 0 ∨ i = 1 ∨ i = 2 ∨ i = 3 ∨ i = 4 ∨ i = 5 ∨ i = 6 ∨ i = 7 ∨ i = 8 := by omega
  rcases this with rfl | rfl | rfl | rfl | rfl | rfl | rfl | rfl | rfl <;> rfl

theorem getD_all {α : Type} (P : α → Prop) (l : List α) (d : α) (hd : P d) (hl : ∀ x ∈ l, P x) (i : Nat) : P (l.getD i d) := by
  rw [List.getD_eq_getElem?_getD]
  cases h : l[i]? with
  | none => exact hd
  | some x => exact hl x (List.mem_of_getElem? h)

theorem tapeStrs_small (i : Nat) : (tapeStrs.getD i ByteArray.empty).size ≤ maxLen := by
  refine Nat.le_trans (getD_all (fun s : ByteArray => s.size ≤ 9) tapeStrs _ (by decide) (by decide) i) (by decide)

/-- The kind of term that comes next: below 0 nothing deep. -/
def tapeKind (ns : List Int) (deep k : Nat) : Int := if deep = 0 then nextV ns k 10 % 5 else nextV ns k 10

/-- The term that a tape gives, and where it stands then. -/
def tapeT (ns : List Int) : Nat → Nat → (Nd × Fo) × Nat
  | 0, k =>
    if nextV ns k 10 % 5 < 2 then ((⟨1, 0, tapeStrs.getD (nextV ns (nextK ns k 10) 9).toNat ByteArray.empty⟩, .nil), nextK ns (nextK ns k 10) 9)
    else ((⟨2, tapeNums.getD (nextV ns (nextK ns k 10) 8).toNat 0, ByteArray.empty⟩, .nil), nextK ns (nextK ns k 10) 8)
  | d + 1, k =>
    if nextV ns k 10 < 2 then ((⟨1, 0, tapeStrs.getD (nextV ns (nextK ns k 10) 9).toNat ByteArray.empty⟩, .nil), nextK ns (nextK ns k 10) 9)
    else if nextV ns k 10 < 5 then ((⟨2, tapeNums.getD (nextV ns (nextK ns k 10) 8).toNat 0, ByteArray.empty⟩, .nil), nextK ns (nextK ns k 10) 8)
    else if nextV ns k 10 < 7 then
      ((⟨3 + nextV ns k 10 - 5, 0, ByteArray.empty⟩, .node 0 0 (tapeT ns d (nextK ns k 10)).1.1 (tapeT ns d (nextK ns k 10)).1.2 .nil), (tapeT ns d (nextK ns k 10)).2)
    else
      ((⟨5 + nextV ns k 10 - 7, 0, ByteArray.empty⟩, .node 0 0 (tapeT ns d (nextK ns k 10)).1.1 (tapeT ns d (nextK ns k 10)).1.2
        (.node 0 0 (tapeT ns d (tapeT ns d (nextK ns k 10)).2).1.1 (tapeT ns d (tapeT ns d (nextK ns k 10)).2).1.2 .nil)), (tapeT ns d (tapeT ns d (nextK ns k 10)).2).2)

theorem tapeT_le (ns : List Int) : ∀ (d k : Nat), k ≤ ns.length → (tapeT ns d k).2 ≤ ns.length
  | 0, k, h => by
    rw [tapeT]; split <;> exact nextK_le _ _ _ (nextK_le _ _ _ h)
  | d + 1, k, h => by
    have h1 := nextK_le ns k 10 h
    rw [tapeT]; split
    · exact nextK_le _ _ _ h1
    · split
      · exact nextK_le _ _ _ h1
      · split
        · exact tapeT_le ns d _ h1
        · exact tapeT_le ns d _ (tapeT_le ns d _ h1)

def TermOk (ns : List Int) (d : Nat) : Prop := ∀ (w : World) (tb B : Nat) (LA : Option Addr) (cap k : Nat), TapeAt w tb LA ns.length cap k → B ≤ tb → NumsAt w B ns LA → NumsFit ns → k ≤ ns.length →
    Calls Tryz.prog 27 #[.pointer (some ⟨tb, 0, none⟩), .int .i64 (d : Int)] w fun e w' =>
      ∃ v, e = .returned v ∧ Only tb w w' ∧ TapeAt w' tb LA ns.length cap (tapeT ns d k).2 ∧ RepVG w' (fun b => w.heap.size ≤ b ∧ b < w'.heap.size) (tapeT ns d k).1.1 (tapeT ns d k).1.2 v

theorem TapeAt.set4 {w : World} {tb : Nat} {LA : Option Addr} {n cap k : Nat} (h : TapeAt w tb LA n cap k) {q : Nat} (hq : tb ≠ q) (u0 u1 u2 u3 : Value) :
    TapeAt ((((w.setCell ⟨q, 0, none⟩ u0).setCell ⟨q, 1, none⟩ u1).setCell ⟨q, 2, none⟩ u2).setCell ⟨q, 3, none⟩ u3) tb LA n cap k := by
  obtain ⟨t0, t1, t2, t3⟩ := h
  exact ⟨by simpa [World.setCell] using t0, by rw [cell_set4 _ _ _ _ _ _ _ _ hq]; exact t1, by rw [cell_set4 _ _ _ _ _ _ _ _ hq]; exact t2, by simpa using t3⟩

theorem size_set4 (w : World) (q : Nat) (u0 u1 u2 u3 : Value) : ((((w.setCell ⟨q, 0, none⟩ u0).setCell ⟨q, 1, none⟩ u1).setCell ⟨q, 2, none⟩ u2).setCell ⟨q, 3, none⟩ u3).heap.size = w.heap.size := by simp [World.setCell]

theorem fit_atom (s : ByteArray) (h : s.size ≤ maxLen) : Nd.Fit ⟨1, 0, s⟩ := ⟨by simp, by simp, by simp, by simp, h⟩

theorem tapeNums_at (i : Nat) (hi : i < 8) : [Value.int .i64 1, Value.int .i64 2, Value.int .i64 3, Value.int .i64 4, Value.int .i64 5, Value.int .i64 0, Value.int .i64 300, Value.int .i64 1073741824][i]? = some (Value.int .i64 (tapeNums.getD i 0)) := by
  have : i = 0 ∨ i = 1 ∨ i = 2 ∨ i = 3 ∨ i = 4 ∨ i = 5 ∨ i = 6 ∨ i = 7 := by omega
  rcases this with rfl | rfl | rfl | rfl | rfl | rfl | rfl | rfl <;> rfl

theorem tapeNums_small (i : Nat) : 0 ≤ tapeNums.getD i 0 ∧ tapeNums.getD i 0 ≤ 1073741824 :=
  getD_all (fun n : Int => 0 ≤ n ∧ n ≤ 1073741824) tapeNums _ (by decide) (by decide) i

theorem empty_small : ByteArray.empty.size ≤ maxLen := by decide

theorem fit_nonce (n : Int) (h : 0 ≤ n ∧ n ≤ 1073741824) : Nd.Fit ⟨2, n, ByteArray.empty⟩ := ⟨by simp, by simp, by simp; omega, by simp; omega, empty_small⟩

set_option maxHeartbeats 2000000 in
theorem term_zero (ns : List Int) : TermOk ns 0 := by
  intro w tb B LA cap k ht hB hns hf hk
  go_enter Tryz.func27, Tryz.ntmps27
  go_wp2_with fail
  have t0 := ht.1
  refine (next_any _ tb B LA ns cap k 10 (ht.only (Below.alloc (Below.refl _ _) (Nat.le_refl _) _)) hB (hns.only (Only.alloc (Only.refl _ _) _) hB t0) hf (by omega) (by omega) hk).mono ?_
  rintro e w1 ⟨rfl, ho, ht1⟩
  have l1 := nextV_lo ns k 10
  have l2 := nextV_hi ns k 10 (by omega)
  generalize hx0 : nextV ns k 10 = x at *
  have hx : Hid (nextV ns k 10 = x) := hx0
  generalize hk0 : nextK ns k 10 = k1 at *
  have hk1 : Hid (nextK ns k 10 = k1) := hk0
  have hk2 : k1 ≤ ns.length := by rw [← hk0]; exact nextK_le _ _ _ hk
  clear hx0 hk0
  go_wp2_with fail
  · refine (pick9 _ tb B LA ns cap k1 w1.heap.size 9 (ht1.only (Below.alloc (Below.refl _ _) (Nat.le_refl _) _)) hB ?hn hf hk2 (by have := ho.size; simp at this; omega) (by simp) ?hs).mono ?_
    case hn => exact (hns.only ((Only.alloc (Only.refl _ _) _).trans (Only.alloc ho _)) hB t0)
    case hs => intro i hi; simp [go_sem]; exact tapeStrs_at i hi
    rintro e w2 ⟨rfl, ho2, ht2⟩
    have hsz : (tapeStrs.getD (nextV ns k1 9).toNat ByteArray.empty).size ≤ maxLen := tapeStrs_small _
    generalize hs0 : tapeStrs.getD (nextV ns k1 9).toNat ByteArray.empty = sx at *
    have Hs : Hid (tapeStrs.getD (nextV ns k1 9).toNat ByteArray.empty = sx) := hs0
    clear hs0
    go_wp2_with fail
    refine (refA_any _ _).mono ?_
    rintro e w3 ⟨rfl, ho3⟩
    have hO : Only tb (w.alloc (.cells #[.int .i64 0, .int .i64 0, .string ⟨#[]⟩, .slice none 0 0] 24)) w3 := ((Only.alloc ho _).trans ho2).below ho3
    obtain ⟨r0, r1, r2, r3, f0, f1, f2, f3⟩ := res4 hO t0
    have ht3 := ht2.only ho3
    go_wp2_with fail
    refine bodyPost_ret (v := .agg #[.int .i64 1, .int .i64 0, .string sx, .slice none 0 0]) (by simp [results, Tryz.results27, go_sem, r0, r1, r2, r3]) rfl ⟨_, rfl, ?_, ?_, ?_⟩
    · exact Only.set4 ((Only.alloc (Only.refl _ _) _).trans hO) (Nat.le_refl _) _ _ _ _
    · rw [tapeT, hx.out, hk1.out, if_pos (by omega)]; exact ht3.set4 (by omega) _ _ _ _
    · rw [tapeT, hx.out, hk1.out, if_pos (by omega), Hs.out]; exact ⟨fit_atom _ hsz, none, 0, 0, 0, rfl, ⟨Nat.zero_le _, Nat.zero_le _⟩, .inl rfl, trivial⟩
  · refine (next_any _ tb B LA ns cap k1 8 (ht1.only (Below.alloc (Below.refl _ _) (Nat.le_refl _) _)) hB ?hn hf (by omega) (by omega) hk2).mono ?_
    case hn => exact (hns.only ((Only.alloc (Only.refl _ _) _).trans (Only.alloc ho _)) hB t0)
    rintro e w2 ⟨rfl, ho2, ht2⟩
    have y1 := nextV_lo ns k1 8
    have y2 := nextV_hi ns k1 8 (by omega)
    have hsz := tapeNums_small (nextV ns k1 8).toNat
    have hcl : w2.cell? ⟨w1.heap.size, (nextV ns k1 8).toNat, none⟩ = some (.int .i64 (tapeNums.getD (nextV ns k1 8).toNat 0)) := by
      rw [ho2.cell (by simp) (by have := ho.size; simp at this ⊢; omega)]; simp [go_sem]; exact tapeNums_at _ (by omega)
    generalize hz0 : tapeNums.getD (nextV ns k1 8).toNat 0 = z at *
    have Hz : Hid (tapeNums.getD (nextV ns k1 8).toNat 0 = z) := hz0
    clear hz0
    generalize hy0 : nextV ns k1 8 = y at *
    have Hy : Hid (nextV ns k1 8 = y) := hy0
    clear hy0
    go_wp2_with fail
    refine (refN_any _ _).mono ?_
    rintro e w3 ⟨rfl, ho3⟩
    have hO : Only tb (w.alloc (.cells #[.int .i64 0, .int .i64 0, .string ⟨#[]⟩, .slice none 0 0] 24)) w3 := ((Only.alloc ho _).trans ho2).below ho3
    obtain ⟨r0, r1, r2, r3, f0, f1, f2, f3⟩ := res4 hO t0
    have ht3 := ht2.only ho3
    go_wp2_with fail
    refine bodyPost_ret (v := .agg #[.int .i64 2, .int .i64 z, .string ByteArray.empty, .slice none 0 0]) (by simp [results, Tryz.results27, go_sem, r0, r1, r2, r3]) rfl ⟨_, rfl, ?_, ?_, ?_⟩
    · exact Only.set4 ((Only.alloc (Only.refl _ _) _).trans hO) (Nat.le_refl _) _ _ _ _
    · rw [tapeT, hx.out, hk1.out, if_neg (by omega)]; exact ht3.set4 (by omega) _ _ _ _
    · rw [tapeT, hx.out, hk1.out, if_neg (by omega), Hy.out, Hz.out]; exact ⟨fit_nonce _ hsz, none, 0, 0, 0, rfl, ⟨Nat.zero_le _, Nat.zero_le _⟩, .inl rfl, trivial⟩

end Go.Proofs.YtgmmbfnmojjbkaaGreatDoor
