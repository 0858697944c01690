import Derived.Test.YtgmmbfnmojjbkaaGreatDoorMZ
import Derived.Test.YtgmmbfnmojjbkaaGreatDoorW20
import Derived.Test.YtgmmbfnmojjbkaaGreatDoorT0
import Derived.Deep.RegionHeld3
namespace Go.Proofs.YtgmmbfnmojjbkaaGreatDoor
open Go.RowKit
set_option linter.unusedVariables false
set_option linter.unusedSimpArgs false

/-- Two rows of the terms of the same pieces. -/
theorem fs_same {M L : List Kd} {P R : List (List UInt8)} (h : FS M P) (k : FS L R) (h1 : ∀ p ∈ P, p ∈ R) (h2 : ∀ p ∈ R, p ∈ P) : M.length = L.length ∧ ∀ i, i < M.length → ordK (M.getD i kd0) (L.getD i kd0) = 0 := by
  have key : ∀ {M L : List Kd} {P R : List (List UInt8)}, FS M P → FS L R → (∀ p ∈ P, p ∈ R) → ∀ x ∈ M, ∃ y ∈ L, ordK x y = 0 := fun {M L P R} h k h1 x hx => by
    obtain ⟨p, hp, a, l, e, r⟩ := h.sound x hx
    obtain ⟨y, hy, r'⟩ := k.whole p (h1 p hp) a l e
    refine ⟨y, hy, ?_⟩
    have e1 := ordT_zero r
    have e2 := ordT_zero r'
    unfold ordK
    rw [e1.1, e2.1]
    exact ordT_norm _ (e1.2.trans e2.2.symm)
  exact sortOf_unique M L h.rises k.rises (key h k h1) (key k h h2)

/-- What the reference tries. -/
def finR (s : List UInt8) : List (List UInt8) := mks s ++ pcs (brk nq s [])

theorem mem_pcs (s p : List UInt8) : p ∈ pcs (brk nq s []) ↔ ∃ x ∈ insL s, p ∈ mks x := by
  unfold pcs insL
  rw [List.mem_flatMap]
  constructor
  · rintro ⟨r, hr, hp⟩; exact ⟨_, List.mem_map.2 ⟨r, hr, rfl⟩, hp⟩
  · rintro ⟨x, hx, hp⟩; obtain ⟨r, hr, rfl⟩ := List.mem_map.1 hx; exact ⟨r, hr, hp⟩

theorem finP_R (s p : List UInt8) (hp : p ∈ finP s) : p ∈ finR s := by
  obtain ⟨x, hx, hq⟩ := List.mem_flatMap.1 hp
  rcases List.mem_append.1 hx with hx | hx
  · exact List.mem_append.2 (.inr ((mem_pcs s p).2 ⟨x, insL_mem s x hx, hq⟩))
  · simp only [List.mem_singleton] at hx; rw [hx] at hq; exact List.mem_append.2 (.inl hq)
theorem finR_P (s p : List UInt8) (hp : p ∈ finR s) : p ∈ finP s := by
  rcases List.mem_append.1 hp with hp | hp
  · exact List.mem_flatMap.2 ⟨s, by simp, hp⟩
  · obtain ⟨x, hx, hp⟩ := (mem_pcs s p).1 hp
    rcases insP_mem s x hx with rfl | hx
    · rw [mks_nil] at hp; cases hp
    · exact List.mem_flatMap.2 ⟨x, by simp [hx], hp⟩

/-- A term's bytes, written by signs, are the term. -/
theorem in_put {a : Nd} {l : Fo} (h : may a l = true) : inL (b64L (putT a l)) = .ok (a, norm l) := by
  unfold inL
  rw [if_pos (dOk_enc _), g_enc]
  have := tk_all a l [] h
  rw [List.append_nil] at this
  unfold oneB
  rw [this]; rfl

theorem headB_len9 (a : Nd) : (headB a).length ≤ (if a.kind = 1 then 3 + a.s.size else 5) := by
  unfold headB
  rw [List.length_cons]
  split
  · rw [List.length_append, be_length, size_list]; omega
  · split
    · rw [be_length]; omega
    · simp

theorem leafA_len (i : Nat) : (putT ⟨1, 0, tapeStrs.getD i ByteArray.empty⟩ .nil).length ≤ 12 := by
  have h := headB_len9 ⟨1, 0, tapeStrs.getD i ByteArray.empty⟩
  have h9 : (tapeStrs.getD i ByteArray.empty).size ≤ 9 := getD_all (fun s : ByteArray => s.size ≤ 9) tapeStrs _ (by decide) (by decide) i
  rw [if_pos rfl] at h
  simp only [putT, putF, List.append_nil]
  simp only at h
  omega
theorem leafN_len (n : Int) : (putT ⟨2, n, ByteArray.empty⟩ .nil).length ≤ 12 := by
  have h := headB_len9 ⟨2, n, ByteArray.empty⟩
  rw [if_neg (show ¬ (2 : Int) = 1 by decide)] at h
  simp only [putT, putF, List.append_nil]
  omega

theorem headK_len (k : Int) (h1 : k ≠ 1) : (headB ⟨k, 0, ByteArray.empty⟩).length ≤ 5 := by
  have h := headB_len9 ⟨k, 0, ByteArray.empty⟩
  rw [if_neg h1] at h; exact h

/-- How long a tape's terms are. -/
theorem tape_len (ns : List Int) : ∀ d k : Nat, (putT (tapeT ns d k).1.1 (tapeT ns d k).1.2).length ≤ 12 * (2 ^ (d + 1) - 1)
  | 0, k => by
    rw [tapeT]; split
    · exact leafA_len _
    · exact leafN_len _
  | d + 1, k => by
    have hp : 2 ^ (d + 1) ≥ 2 := by have := Nat.one_le_two_pow (n := d); rw [Nat.pow_succ]; omega
    have he : 2 ^ (d + 1 + 1) = 2 * 2 ^ (d + 1) := by rw [Nat.pow_succ]; omega
    rw [he]
    have l1 := nextV_lo ns k 10
    rw [tapeT]; split
    · exact Nat.le_trans (leafA_len _) (by omega)
    · split
      · exact Nat.le_trans (leafN_len _) (by omega)
      · split
        · have ih := tape_len ns d (nextK ns k 10)
          have hh := headK_len (3 + nextV ns k 10 - 5) (by omega)
          generalize tapeT ns d (nextK ns k 10) = T at *
          obtain ⟨⟨a, l⟩, k'⟩ := T
          simp only [putT, putF, List.length_append, List.append_nil] at ih ⊢
          omega
        · have ih := tape_len ns d (nextK ns k 10)
          have ih2 := tape_len ns d (tapeT ns d (nextK ns k 10)).2
          have hh := headK_len (5 + nextV ns k 10 - 7) (by omega)
          generalize tapeT ns d (tapeT ns d (nextK ns k 10)).2 = T2 at *
          generalize tapeT ns d (nextK ns k 10) = T at *
          obtain ⟨⟨a, l⟩, k'⟩ := T
          obtain ⟨⟨c, m⟩, k''⟩ := T2
          simp only [putT, putF, List.length_append, List.append_nil] at ih ih2 ⊢
          omega

theorem markS_size (a : Nd) (l : Fo) (n : Nat) (h : (putT a l).length ≤ n) : (markS a l).size ≤ (n * 8 + 5) / 6 + 2 := by
  have hp : (putB a l).length ≤ n := by
    unfold putB; split
    · exact h
    · simp
  rw [← size_list, markS, ba_list, markL]
  split
  · simp
  · rw [List.length_cons, List.length_append, b64_len]; simp; omega

theorem mark_ne {a : Nd} {l : Fo} (h : may a l = true) : 2 ≤ (markS a l).size := by
  have hp := put_pos a l
  rw [← size_list, markS, ba_list, markL, if_neg (by rw [putB, if_pos h]; omega)]
  simp

end Go.Proofs.YtgmmbfnmojjbkaaGreatDoor

namespace Go.Proofs.YtgmmbfnmojjbkaaGreatDoor
open Go.RowKit
set_option linter.unusedVariables false
set_option linter.unusedSimpArgs false

def TxRel (w : World) (B : Nat) (LA : Option Addr) (ns : List Int) (cap most : Nat) (sv iv : Value) (wr : World) : Prop :=
  ∃ (i k : Nat) (s : ByteArray), sv = .string s ∧ iv = .int .i64 (i : Int) ∧ i ≤ most ∧ s.size ≤ 200 * i ∧ k ≤ ns.length ∧ TapeAt wr w.heap.size LA ns.length cap k ∧ NumsAt wr B ns LA ∧ Below w.heap.size w wr

def TxEnd (w : World) (most : Nat) (e : Ending) (w' : World) : Prop := ∃ s : ByteArray, e = .returned (.string s) ∧ s.size ≤ 200 * most ∧ Below w.heap.size w w'

theorem nums_only {w w' : World} {B tb : Nat} {ns : List Int} {LA : Option Addr} (h : NumsAt w B ns LA) (ho : Only tb w w') (hB : B ≤ tb) (ht : tb < w.heap.size) : NumsAt w' B ns LA := by
  rcases h with h | ⟨lb, lo, e, hl, hc⟩
  · exact .inl h
  · exact .inr ⟨lb, lo, e, hl, fun i hi => by rw [ho.cell (by simp; omega) (by simp; omega)]; exact hc i hi⟩
theorem nums_below9 {w w' : World} {B : Nat} {ns : List Int} {LA : Option Addr} (h : NumsAt w B ns LA) (hb : Below w.heap.size w w') (hB : B ≤ w.heap.size) : NumsAt w' B ns LA := by
  rcases h with h | ⟨lb, lo, e, hl, hc⟩
  · exact .inl h
  · exact .inr ⟨lb, lo, e, hl, fun i hi => by rw [hb.cell (by simp; omega)]; exact hc i hi⟩
theorem tape_below9 {w w' : World} {tb n cap k : Nat} {LA : Option Addr} (h : TapeAt w tb LA n cap k) (hb : Below w.heap.size w w') : TapeAt w' tb LA n cap k := by
  obtain ⟨t0, t1, t2, t3⟩ := h
  exact ⟨Nat.lt_of_lt_of_le t0 hb.size, by rw [hb.cell (by simpa using t0)]; exact t1, by rw [hb.cell (by simpa using t0)]; exact t2, by rw [hb.frozen (by simpa using t0)]; exact t3⟩

def dotStrs : List ByteArray := [⟨#[46]⟩, ⟨#[97]⟩, ⟨#[61]⟩, ⟨#[38]⟩, ⟨#[32]⟩, ⟨#[65]⟩, ⟨#[34]⟩]

theorem dotStrs_at (i : Nat) (hi : i < 7) : [Value.string ⟨#[46]⟩, Value.string ⟨#[97]⟩, Value.string ⟨#[61]⟩, Value.string ⟨#[38]⟩, Value.string ⟨#[32]⟩, Value.string ⟨#[65]⟩, Value.string ⟨#[34]⟩][i]? = some (Value.string (dotStrs[i]?.getD ByteArray.empty)) := by
  have : i = 0 ∨ i = 1 ∨ i = 2 ∨ i = 3 ∨ i = 4 ∨ i = 5 ∨ i = 6 := by omega
  rcases this with rfl | rfl | rfl | rfl | rfl | rfl | rfl <;> rfl
theorem dotStrs_small (i : Nat) : (dotStrs.getD i ByteArray.empty).size ≤ 1 := getD_all (fun s : ByteArray => s.size ≤ 1) dotStrs _ (by decide) (by decide) i

theorem pick7 (w : World) (tb B : Nat) (LA : Option Addr) (ns : List Int) (cap k sb sc : Nat) (ht : TapeAt w tb LA ns.length cap k) (hB : B ≤ tb) (hns : NumsAt w B ns LA) (hf : NumsFit ns) (hk : k ≤ ns.length)
    (hne : sb ≠ tb) (hsb : sb < w.heap.size) (hss : ∀ i, i < 7 → w.cell? ⟨sb, i, none⟩ = some (.string (dotStrs.getD i ByteArray.empty))) :
    Calls Tryz.prog 25 #[.pointer (some ⟨tb, 0, none⟩), .slice (some ⟨sb, 0, none⟩) 7 sc] w fun e w' =>
      e = .returned (.string (dotStrs.getD (nextV ns k 7).toNat ByteArray.empty)) ∧ Only tb w w' ∧ TapeAt w' tb LA ns.length cap (nextK ns k 7) :=
  pick_any w tb B LA ns cap k sb dotStrs sc ht hB hns hf hk (by decide) (by decide) hne hsb hss

set_option maxRecDepth 100000 in
set_option maxHeartbeats 2000000 in
/-- Some text. -/
theorem texts_any (ns : List Int) (LA : Option Addr) (cap B most : Nat) (mi : Int) (hmi : mi = (most : Int)) (hmost : most ≤ 100) (w : World) (hB : B ≤ w.heap.size) (hns : NumsAt w B ns LA) (hf : NumsFit ns) :
    Calls Tryz.prog 9 #[.slice LA ns.length cap, .int .i64 mi] w fun e w' => TxEnd w most e w' := by
  subst hmi
  have hnl := hf.1
  go_enter Tryz.func9, Tryz.ntmps9
  go_wp2_with fail
  go_loopw [6, 7] (fun sv iv wr => TxRel w B LA ns cap most sv iv wr) (fun _ iv _ => most - (intOf iv).toNat)
  case atStart =>
    exact ⟨0, 0, _, rfl, rfl, Nat.zero_le _, Nat.zero_le _, Nat.zero_le _, ⟨by simp, by simp [go_sem], by simp [go_sem], by simp [go_sem]⟩, nums_below9 hns (Below.alloc (Below.refl _ _) (Nat.le_refl _) _) hB, Below.alloc (Below.refl _ _) (Nat.le_refl _) _⟩
  case round =>
    obtain ⟨i, k, s, rfl, rfl, him, hss, hk, hta, hnu, hb⟩ := hrel
    have hsz := hb.size
    have hlr := hta.1
    have hs1 : ¬ 9223372036854775807 < s.size + 1 := by omega
    have HB0 : Hid (Below w.heap.size w wr) := hb
    have HT0 : Hid (TapeAt wr w.heap.size LA ns.length cap k) := hta
    have HN0 : Hid (NumsAt wr B ns LA) := hnu
    by_cases hlt : i < most
    · have hlt' : (i : Int) < (most : Int) := by omega
      clear hb hnu
      go_wp2_with fail
      refine (more_any _ _ _ _ _ _ hta hnl).mono ?_
      rintro e w1 ⟨rfl, m, rfl⟩
      have hbm : Below wr.heap.size wr (wr.drewN m) := below_drewN (Below.refl _ _) m
      generalize wr.drewN m = w1 at *
      have hsz1 := hbm.size
      have HB1 : Hid (Below w.heap.size w w1) := HB0.out.trans (hbm.mono hsz)
      have HT1 : Hid (TapeAt w1 w.heap.size LA ns.length cap k) := tape_below9 HT0.out hbm
      have HN1 : Hid (NumsAt w1 B ns LA) := nums_below9 HN0.out hbm (by omega)
      clear hbm hta HB0 HT0 HN0
      by_cases hkl : k < ns.length
      · go_wp2_with fail
        have hmay : may (tapeT ns 2 k).1.1 (tapeT ns 2 k).1.2 = true := (tape_may ns 2 k 1 0 (by decide) (by decide)).1
        have hlen := tape_len ns 2 k
        have hk3 := tapeT_le ns 2 k hk
        refine (termAt ns 2 2 rfl (by decide) _ w.heap.size B LA cap k HT1.out hB HN1.out hf hk).mono ?_
        generalize tapeT ns 2 k = T at *
        obtain ⟨⟨a, l⟩, k3⟩ := T
        rintro e w2 ⟨v, rfl, ho2, ht2, hrv⟩
        have hsz2 := ho2.size
        have HB2 : Hid (Below w.heap.size w w2) := HB1.out.trans (ho2.toBelow (Nat.le_refl _) (by omega))
        have HN2 : Hid (NumsAt w2 B ns LA) := nums_only HN1.out ho2 hB (by omega)
        have hv2 : RepV w2 w2.heap.size a l v := RepVG.toV (fun _ h => h.2) hrv
        have hxs := markS_size a l 84 (by simpa using hlen)
        have hx2 := mark_ne hmay
        have htx := rtext_any a l v w2 hv2
        have HT2 : Hid (TapeAt w2 w.heap.size LA ns.length cap k3) := ht2
        obtain ⟨hf1, A3, cap3, b3, o3, rfl, hn3, hA3, hl3⟩ := hrv
        clear hmay hlen hv2 hf1 hn3 hA3 hl3 ho2 ht2 HB1 HT1 HN1
        generalize markS a l = x at *
        go_wp2_with fail
        refine htx.mono ?_
        rintro e w3 ⟨rfl, hb3⟩
        have hsz3 := hb3.size
        have HB3 : Hid (Below w.heap.size w w3) := HB2.out.trans (hb3.mono (by omega))
        have HT3 : Hid (TapeAt w3 w.heap.size LA ns.length cap k3) := tape_below9 HT2.out hb3
        have HN3 : Hid (NumsAt w3 B ns LA) := nums_below9 HN2.out hb3 (by omega)
        clear htx hb3 HB2 HT2 HN2
        go_wp2_with fail
        refine (next_any _ w.heap.size B LA ns cap k3 8 HT3.out hB HN3.out hf (by omega) (by omega) hk3).mono ?_
        rintro e w4 ⟨rfl, ho4, ht4⟩
        have y1 := nextV_lo ns k3 8
        have y2 := nextV_hi ns k3 8 (by omega)
        have hk4 := nextK_le ns k3 8 hk3
        have hsz4 := ho4.size
        have HB : Hid (Below w.heap.size w w4) := HB3.out.trans (ho4.toBelow (Nat.le_refl _) (by omega))
        have HNU : Hid (NumsAt w4 B ns LA) := nums_only HN3.out ho4 hB (by omega)
        have HTA : Hid (TapeAt w4 w.heap.size LA ns.length cap (nextK ns k3 8)) := ht4
        have HK : Hid (nextK ns k3 8 ≤ ns.length) := hk4
        generalize nextV ns k3 8 = y at *
        generalize nextK ns k3 8 = k5 at *
        clear ho4 ht4 hk4 HB3 HT3 HN3
        have hcase : y = 0 ∨ y = 1 ∨ y = 2 ∨ y = 3 ∨ 4 ≤ y := by omega
        rcases hcase with rfl | rfl | rfl | rfl | hy4
        · go_wp2_with fail
          go_roundw
          case rel => exact ⟨i + 1, k5, _, rfl, by go_num, by omega, by rw [ByteArray.size_append]; show s.size + 1 ≤ _; omega, HK.out, HTA.out, HNU.out, HB.out⟩
          case measure => simp [intOf]; omega
        · have hal : ∀ o : Obj, Below w4.heap.size w4 (w4.alloc o) := fun o => Below.alloc (Below.refl _ _) (Nat.le_refl _) _
          go_wp2_with fail
          refine (pick7 _ w.heap.size B LA ns cap k5 w4.heap.size 7 (tape_below9 HTA.out (hal _)) hB (nums_below9 HNU.out (hal _) (by omega)) hf HK.out (by omega) (by simp) ?hs).mono ?_
          case hs => intro j hj; simp [go_sem]; exact dotStrs_at j hj
          rintro e w5 ⟨rfl, ho5, ht5⟩
          have hsm := dotStrs_small (nextV ns k5 7).toNat
          have hk7 := nextK_le ns k5 7 HK.out
          have hsz5 := ho5.size
          simp only [World.heap_size_alloc'] at hsz5
          have HB5 : Hid (Below w.heap.size w w5) := HB.out.trans (((hal _).mono (by omega)).trans (ho5.toBelow (Nat.le_refl _) (by simp; omega)))
          have HN5 : Hid (NumsAt w5 B ns LA) := nums_only (nums_below9 HNU.out (hal _) (by omega)) ho5 hB (by simp; omega)
          have HT5 : Hid (TapeAt w5 w.heap.size LA ns.length cap (nextK ns k5 7)) := ht5
          have HK5 : Hid (nextK ns k5 7 ≤ ns.length) := hk7
          generalize dotStrs.getD (nextV ns k5 7).toNat ByteArray.empty = z at *
          generalize nextK ns k5 7 = k7 at *
          have hs2 : ¬ 9223372036854775807 < s.size + z.size := by omega
          clear ho5 ht5 hk7 HB HNU HTA hal
          go_wp2_with fail
          go_roundw
          case rel => exact ⟨i + 1, k7, _, rfl, by go_num, by omega, by rw [ByteArray.size_append]; omega, HK5.out, HT5.out, HN5.out, HB5.out⟩
          case measure => simp [intOf]; omega
        · have h1x : (1 : Int) ≤ (x.size : Int) := by omega
          have hes : (x.extract 1 x.size).size ≤ 114 := by rw [← size_list, ext_list, List.length_take, List.length_drop, size_list]; omega
          have hs2 : ¬ 9223372036854775807 < s.size + (x.extract 1 x.size).size := by omega
          go_wp2_with fail
          go_roundw
          case rel => exact ⟨i + 1, k5, _, rfl, by go_num, by omega, by rw [ByteArray.size_append]; omega, HK.out, HTA.out, HNU.out, HB.out⟩
          case measure => simp [intOf]; omega
        · have hs3 : ¬ 9223372036854775807 < 10 + x.size := by omega
          have hs4 : ¬ 9223372036854775807 < 10 + x.size + 2 := by omega
          have hst : ((⟨#[123, 34, 110, 111, 110, 99, 101, 34, 58, 34]⟩ : ByteArray) ++ x ++ ⟨#[34, 125]⟩).size ≤ 126 := by
            rw [ByteArray.size_append, ByteArray.size_append]; show 10 + x.size + 2 ≤ _; omega
          obtain ⟨C, W5, hC, hCm, hconv, hby, _, hb5, hs5⟩ := bytes_row ((⟨#[123, 34, 110, 111, 110, 99, 101, 34, 58, 34]⟩ : ByteArray) ++ x ++ ⟨#[34, 125]⟩) w4 (by unfold maxLen; omega)
          generalize hzz : (⟨#[123, 34, 110, 111, 110, 99, 101, 34, 58, 34]⟩ : ByteArray) ++ x ++ ⟨#[34, 125]⟩ = st at *
          have hen := rbenc_any (some ⟨w4.heap.size, 0, none⟩) st.data.toList C W5 hby (by rw [size_list]; exact hC) (by rw [size_list]; omega)
          rw [size_list] at hen
          have hes : (b64S st.data.toList).size ≤ 169 := by rw [b64S_size, size_list]; omega
          generalize b64S st.data.toList = z at *
          have hs2 : ¬ 9223372036854775807 < s.size + z.size := by omega
          have HB5 : Hid (Below w4.heap.size w4 W5) := hb5
          have hsz5 := hb5.size
          clear hb5 hby
          go_wp2_with fail
          refine hen.mono ?_
          rintro e w6 ⟨rfl, hb6⟩
          have HB6 : Hid (Below w4.heap.size w4 w6) := HB5.out.trans (hb6.mono hsz5)
          clear hen hb6
          go_wp2_with fail
          go_roundw
          case rel => exact ⟨i + 1, k5, _, rfl, by go_num, by omega, by rw [ByteArray.size_append]; omega, HK.out, tape_below9 HTA.out HB6.out, nums_below9 HNU.out HB6.out (by omega), HB.out.trans (HB6.out.mono (by omega))⟩
          case measure => simp [intOf]; omega
        · have q0 : (y == 0) = false := by rw [beq_eq_false_iff_ne]; omega
          have q1 : (y == 1) = false := by rw [beq_eq_false_iff_ne]; omega
          have q2 : (y == 2) = false := by rw [beq_eq_false_iff_ne]; omega
          have q3 : (y == 3) = false := by rw [beq_eq_false_iff_ne]; omega
          have hs2 : ¬ 9223372036854775807 < s.size + x.size := by omega
          clear y1 y2 hy4
          go_wp2_with fail
          go_roundw
          case rel => exact ⟨i + 1, k5, _, rfl, by go_num, by omega, by rw [ByteArray.size_append]; omega, HK.out, HTA.out, HNU.out, HB.out⟩
          case measure => simp [intOf]; omega
      · go_wp2_with fail
        go_ret
        exact ⟨s, rfl, by omega, HB1.out⟩
    · have hlt' : ¬ (i : Int) < (most : Int) := by omega
      clear hb hnu
      go_wp2_with fail
      go_ret
      exact ⟨s, rfl, by omega, HB0.out⟩

end Go.Proofs.YtgmmbfnmojjbkaaGreatDoor

namespace Go.Proofs.YtgmmbfnmojjbkaaGreatDoor
open Go.RowKit
set_option linter.unusedVariables false
set_option linter.unusedSimpArgs false

def okB (r : Except Nat (Nd × Fo)) : Bool := match r with | .ok _ => true | .error _ => false

theorem rdL_may {x : List UInt8} {a : Nd} {l : Fo} (h : rdL x = .ok (a, l)) : may a l = true := by
  unfold rdL at h; split at h
  · unfold inL at h; split at h
    · exact (one_may2 h).2.1
    · cases h
  · cases h

theorem RdEnd.any {w w' : World} {x : List UInt8} {e : Ending} (h : RdEnd w (rdL x) e w') :
    ∃ (k n : Int) (s : ByteArray) (K : Option Addr) (len c : Nat), e = .returned (.tuple #[.agg #[.int .i64 k, .int .i64 n, .string s, .slice K len c], .bool (okB (rdL x))]) ∧ Below w.heap.size w w' ∧ TkV w' (rdL x) (.agg #[.int .i64 k, .int .i64 n, .string s, .slice K len c]) := by
  cases ht : rdL x with
  | error er =>
    rw [ht] at h
    obtain ⟨h1, h2⟩ := h.1 er rfl
    exact ⟨0, 0, ⟨#[]⟩, none, 0, 0, h1, h2, fun _ _ => rfl, fun a l e => by cases e⟩
  | ok y =>
    obtain ⟨a, l⟩ := y
    have hm := rdL_may ht
    rw [ht] at h
    obtain ⟨v, h1, h2, h3⟩ := h.2 a l rfl
    have hV := RepVG.toV (B := w'.heap.size) (fun b hb => hb.2) h3
    obtain ⟨hf, A, cap, b, o, rfl, hn, hA, hl⟩ := h3
    refine ⟨_, _, _, _, _, _, h1, h2, fun er e => (by cases e), fun a' l' e => ?_⟩
    injection e with e; injection e with e1 e2; subst e1 e2
    exact ⟨hm, hV⟩

/-- A mark is read as its term. -/
theorem rd_mark {a : Nd} {l : Fo} (h : may a l = true) : rdL (markL a l) = .ok (a, norm l) := by
  have hp := put_pos a l
  have e : markL a l = 126 :: (b64L (putT a l) ++ [126]) := by rw [markL, putB, if_pos h, if_neg (by omega)]
  have em : mid (126 :: (b64L (putT a l) ++ [126])) = b64L (putT a l) := by unfold mid; simp
  rw [e, rdL, if_pos ⟨by simp, by simp [List.getD], by simp [List.getD]⟩, em, in_put h]

def nk (n : Int) : Nd := ⟨2, n, ⟨#[]⟩⟩
def kdN (n : Int) : Kd := ⟨0, 0, nk n, .nil, none, 0, 0, 0⟩

theorem in_one : inL [65, 103, 65, 65, 65, 65, 69] = .ok (nk 1, .nil) := by
  have h := in_put (a := nk 1) (l := .nil) (by decide +kernel)
  rwa [show b64L (putT (nk 1) .nil) = [65, 103, 65, 65, 65, 65, 69] by decide +kernel] at h
theorem in_two : inL [65, 103, 65, 65, 65, 65, 73] = .ok (nk 2, .nil) := by
  have h := in_put (a := nk 2) (l := .nil) (by decide +kernel)
  rwa [show b64L (putT (nk 2) .nil) = [65, 103, 65, 65, 65, 65, 73] by decide +kernel] at h
theorem in_x : inL [120] = .error 3 := by unfold inL; rw [if_neg (by decide +kernel)]

theorem fs_known : FS [kdN 1, kdN 2] [[65, 103, 65, 65, 65, 65, 69], [120], [65, 103, 65, 65, 65, 65, 73]] := by
  refine ⟨?_, ?_, ?_, by decide⟩
  · have : ordK (kdN 1) (kdN 2) < 0 := by decide +kernel
    simp [this]
  · intro x hx
    simp only [List.mem_cons, List.not_mem_nil, or_false] at hx
    rcases hx with rfl | rfl
    · exact ⟨_, by simp, _, _, in_one, ordT_self _ _⟩
    · exact ⟨[65, 103, 65, 65, 65, 65, 73], by simp, _, _, in_two, ordT_self _ _⟩
  · intro p hp a l e
    simp only [List.mem_cons, List.not_mem_nil, or_false] at hp
    rcases hp with rfl | rfl | rfl
    · rw [in_one] at e; injection e with e; injection e with e1 e2; subst e1 e2; exact ⟨kdN 1, by simp, ordT_self _ _⟩
    · rw [in_x] at e; cases e
    · rw [in_two] at e; injection e with e; injection e with e1 e2; subst e1 e2; exact ⟨kdN 2, by simp, ordT_self _ _⟩

theorem known_pieces : finP (markS (nk 1) .nil ++ ⟨#[120]⟩ ++ markS (nk 2) .nil).data.toList = [[65, 103, 65, 65, 65, 65, 69], [120], [65, 103, 65, 65, 65, 65, 73]] := by decide +kernel

theorem find_len (s : ByteArray) (n : Nat) (L : List Kd) (hm : s.size ≤ 30000) (hL : FS L (finP s.data.toList)) (hn : L.length = n) (W : World) :
    Calls Tryz.prog 21 #[.string s] W fun e w' => ∃ A c, e = .returned (.slice A n c) ∧ Below W.heap.size W w' := by
  refine (mfind_any s W hm).mono ?_
  rintro e w' ⟨M, u, rfl, h1, h2, h3⟩
  obtain ⟨A, c, rfl, _⟩ := h1.len
  have := (fs_same h2 hL (fun p h => h) (fun p h => h)).1
  exact ⟨A, c, by rw [this, hn], h3⟩

end Go.Proofs.YtgmmbfnmojjbkaaGreatDoor

namespace Go.Proofs.YtgmmbfnmojjbkaaGreatDoor
open Go.RowKit
set_option linter.unusedVariables false
set_option linter.unusedSimpArgs false

def at9 : Nd := ⟨1, 0, ⟨#[97]⟩⟩
theorem at9_rep (W : World) : RepV W W.heap.size at9 .nil (.agg #[.int .i64 1, .int .i64 0, .string ⟨#[97]⟩, .slice none 0 0]) :=
  ⟨⟨by simp [at9], by simp [at9], by simp [at9], by simp [at9], show (⟨#[97]⟩ : ByteArray).size ≤ maxLen by decide⟩, none, 0, 0, 0, rfl, ⟨Nat.zero_le _, Nat.zero_le _⟩, .inl rfl, trivial⟩

set_option maxRecDepth 100000 in
set_option maxHeartbeats 2000000 in
theorem known9_any (w : World) :
    Calls Tryz.prog 7 #[] w fun e w' => e = .returned (.bool true) ∧ Below w.heap.size w w' := by
  have kK : ∀ (n : Int) (h1 : -9223372036854775808 ≤ n) (h2 : n ≤ 9223372036854775807) W, Calls Tryz.prog 19 #[.int .i64 n] W fun e w' => e = .returned (.string (markS (nk n) .nil)) ∧ Below W.heap.size W w' := fun n h1 h2 W => mKey_any n W h1 h2
  have kK7 := kK 7 (by decide) (by decide)
  have kK1 := kK 1 (by decide) (by decide)
  have kK2 := kK 2 (by decide) (by decide)
  have z7 : (markS (nk 7) .nil).size ≤ 100000 := by decide +kernel
  have kN7 := fun W => mNumber_any (markS (nk 7) .nil) W z7
  rw [show numR (rdL (markS (nk 7) .nil).data.toList) = (7, true) by decide +kernel] at kN7
  have kNo := fun W => mNumber_any ⟨#[126, 126]⟩ W (by decide)
  rw [show numR (rdL (⟨#[126, 126]⟩ : ByteArray).data.toList) = (0, false) by decide +kernel] at kNo
  have kTA := fun W => mtext_any at9 .nil _ W (at9_rep W)
  have kRd := fun W => mRead_any (markS at9 .nil) W (by decide +kernel)
  rw [show (markS at9 .nil).data.toList = markL at9 .nil from ba_list _, rd_mark (a := at9) (l := .nil) (by decide +kernel)] at kRd
  have kF := find_len (markS (nk 1) .nil ++ ⟨#[120]⟩ ++ markS (nk 2) .nil) 2 [kdN 1, kdN 2] (by decide +kernel) (by rw [known_pieces]; exact fs_known) rfl
  have zz : (markS (nk 1) .nil).size ≤ 100 ∧ (markS (nk 2) .nil).size ≤ 100 := by decide +kernel
  have kA := fun W => refA_any ⟨#[97]⟩ W
  have KSame : Hid (∀ W v, RepV W W.heap.size at9 .nil v → Calls Tryz.prog 17 #[v, .agg #[.int .i64 1, .int .i64 0, .string ⟨#[97]⟩, .slice none 0 0]] W fun e w' => e = .returned (.bool true) ∧ Below W.heap.size W w') := fun W v hv =>
    sameV (r := .ok (at9, .nil)) ⟨fun er e => by (cases e), fun a l e => by injection e with e; injection e with e1 e2; subst e1 e2; exact ⟨by decide +kernel, hv⟩⟩ ⟨fun er e => by (cases e), fun a l e => by injection e with e; injection e with e1 e2; subst e1 e2; exact ⟨by decide +kernel, at9_rep W⟩⟩
  generalize markS (nk 7) .nil = K7 at *
  generalize markS (nk 1) .nil = K1 at *
  generalize markS (nk 2) .nil = K2 at *
  generalize markS at9 .nil = TA at *
  clear kK z7
  obtain ⟨za, zb⟩ := zz
  have s1 : ¬ 9223372036854775807 < K1.size + 1 := by omega
  have s2 : ¬ 9223372036854775807 < K1.size + 1 + K2.size := by omega
  go_enter Tryz.func7, Tryz.ntmps7
  go_wp2_with fail
  refine (kK7 _).mono ?_
  rintro e w1 ⟨rfl, hb1⟩
  go_wp2_with fail
  refine (kN7 _).mono ?_
  rintro e w2 ⟨rfl, hb2⟩
  have hb2 := below_tr8 hb1 hb2
  clear kK7 kN7 hb1
  go_wp2_with fail
  refine (kNo _).mono ?_
  rintro e w3 ⟨rfl, hb3⟩
  have hb3 := below_tr8 hb2 hb3
  clear kNo hb2
  go_wp2_with fail
  refine (kA _).mono ?_
  rintro e w4 ⟨rfl, hb4⟩
  have hb4 := below_tr8 hb3 hb4
  clear hb3
  go_wp2_with fail
  refine (kTA _).mono ?_
  rintro e w5 ⟨rfl, hb5⟩
  have hb5 := below_tr8 hb4 hb5
  clear kTA hb4
  go_wp2_with fail
  refine (kRd _).mono ?_
  intro e w6 h6
  obtain ⟨v, rfl, hb6, hv⟩ := h6.2 at9 .nil rfl
  have hV := RepVG.toV (B := w6.heap.size) (fun b hb => hb.2) hv
  obtain ⟨hf, A3, cap, b, o, rfl, hn, hA, hl⟩ := hv
  have hb6 := below_tr8 hb5 hb6
  have HV : Hid (∀ W, Below w6.heap.size w6 W → RepV W W.heap.size at9 .nil (.agg #[.int .i64 1, .int .i64 0, .string ⟨#[97]⟩, .slice A3 0 cap])) := fun W hW => hV.keep hW.size (fun b o hb' => hW.cell hb')
  clear h6 kRd hb5 hV hf hn hA hl
  simp only [at9, flen]
  obtain ⟨w7, hw7⟩ : ∃ W : World, W = w6.alloc (.cells #[.int .i64 1, .int .i64 0, .string ⟨#[97]⟩, .slice A3 0 cap] 24) := ⟨_, rfl⟩
  go_upto_region 4 with fail
  rw [← hw7]
  have hb7 : Below w6.heap.size w6 w7 := by rw [hw7]; exact Below.alloc (Below.refl _ _) (Nat.le_refl _) _
  have hcs : w7.cell? ⟨w6.heap.size, 0, none⟩ = some (.int .i64 1) ∧ w7.cell? ⟨w6.heap.size, 1, none⟩ = some (.int .i64 0) ∧ w7.cell? ⟨w6.heap.size, 2, none⟩ = some (.string ⟨#[97]⟩) ∧ w7.cell? ⟨w6.heap.size, 3, none⟩ = some (.slice A3 0 cap) := by rw [hw7]; simp [go_sem]
  have hlt : w6.heap.size < w7.heap.size := by rw [hw7]; simp
  have HS : Hid (∀ W, Below w7.heap.size w7 W → ((W.cell? ⟨w6.heap.size, 0, none⟩ = some (.int .i64 1) ∧ W.cell? ⟨w6.heap.size, 1, none⟩ = some (.int .i64 0) ∧ W.cell? ⟨w6.heap.size, 2, none⟩ = some (.string ⟨#[97]⟩) ∧ W.cell? ⟨w6.heap.size, 3, none⟩ = some (.slice A3 0 cap)) ∧ Below w7.heap.size w7 W)) := fun W hW =>
    ⟨⟨by rw [hW.cell (by simpa using hlt)]; exact hcs.1, by rw [hW.cell (by simpa using hlt)]; exact hcs.2.1, by rw [hW.cell (by simpa using hlt)]; exact hcs.2.2.1, by rw [hW.cell (by simpa using hlt)]; exact hcs.2.2.2⟩, hW⟩
  have HSM : Hid (∀ W, Below w7.heap.size w7 W → Calls Tryz.prog 17 #[.agg #[.int .i64 1, .int .i64 0, .string ⟨#[97]⟩, .slice A3 0 cap], .agg #[.int .i64 1, .int .i64 0, .string ⟨#[97]⟩, .slice none 0 0]] W fun e w' => e = .returned (.bool true) ∧ Below W.heap.size W w') := fun W hW => KSame.out W _ (HV.out W (hb7.trans (hW.mono hb7.size)))
  have hB7 : Below w.heap.size w w7 := hb6.trans (hb7.mono hb6.size)
  clear hw7 hcs hb6 hb7 HV KSame
  have hb0 : Below w7.heap.size w7 w7.drew := (Below.refl _ _).drew
  go_region_held3 (fun W => (W.cell? ⟨w6.heap.size, 0, none⟩ = some (.int .i64 1) ∧ W.cell? ⟨w6.heap.size, 1, none⟩ = some (.int .i64 0) ∧ W.cell? ⟨w6.heap.size, 2, none⟩ = some (.string ⟨#[97]⟩) ∧ W.cell? ⟨w6.heap.size, 3, none⟩ = some (.slice A3 0 cap)) ∧ Below w7.heap.size w7 W)
    (with_reducible (first | exact HS.out _ (Below.refl _ _) | exact HS.out _ hb0 | exact HS.out _ hb8 | exact HS.out _ hb9 | exact HS.out _ hb10 | exact HS.out _ hb11 | exact HS.out _ hb12 | assumption))
    (first
      | (go_at_call 26; refine (kA _).mono ?_; rintro e w8 ⟨rfl, hb8'⟩; have hb8 := hb0.trans (hb8'.mono hb0.size))
      | (go_at_call 17; refine (HSM.out _ hb8).mono ?_; rintro e w9 ⟨rfl, hb9'⟩; have hb9 := hb8.trans (hb9'.mono hb8.size))
      | (go_at_call_of 19 (Value.int .i64 1); refine (kK1 _).mono ?_; rintro e w10 ⟨rfl, hb10'⟩; have hb10 := hb9.trans (hb10'.mono hb9.size))
      | (go_at_call_of 19 (Value.int .i64 2); refine (kK2 _).mono ?_; rintro e w11 ⟨rfl, hb11'⟩; have hb11 := hb10.trans (hb11'.mono hb10.size))
      | (go_at_call 21; refine (kF _).mono ?_; rintro e w12 ⟨FA, fc, rfl, hb12'⟩; have hb12 := hb11.trans (hb12'.mono hb11.size)))
  all_goals go_wp2_with fail
  all_goals go_ret
  all_goals exact ⟨rfl, hB7.trans (hb12.mono hB7.size)⟩

end Go.Proofs.YtgmmbfnmojjbkaaGreatDoor
