import Derived.Test.YtgmmbfnmojjbkaaGreatDoorMV
import Derived.Test.YtgmmbfnmojjbkaaGreatDoorLMarkFind
namespace Go.Proofs.YtgmmbfnmojjbkaaGreatDoor
open Go.RowKit
set_option linter.unusedVariables false
set_option linter.unusedSimpArgs false

theorem sg_nq (n : Nat) (h : n < 64) : nq (sg n) = false := by
  unfold nq; rw [sgI_sg n h]; simp
theorem sg_tq_all : ∀ n : Fin 64, tq (sg n.1) = false := by decide +kernel
theorem sg_tq (n : Nat) (h : n < 64) : tq (sg n) = false := sg_tq_all ⟨n, h⟩

/-- What is written so consists of signs. -/
theorem b64_signs : ∀ (y : List UInt8), ∀ c ∈ b64L y, ∃ n, n < 64 ∧ c = sg n
  | a :: b :: d :: t => fun c hc => by
    have ha := a.toNat_lt
    have hb := b.toNat_lt
    have hd := d.toNat_lt
    rw [b64L, List.mem_append] at hc
    rcases hc with hc | hc
    · simp only [four, List.mem_cons, List.not_mem_nil, or_false] at hc
      rcases hc with rfl | rfl | rfl | rfl
      · exact ⟨_, by omega, rfl⟩
      · exact ⟨_, by omega, rfl⟩
      · exact ⟨_, by omega, rfl⟩
      · exact ⟨_, by omega, rfl⟩
    · exact b64_signs t c hc
  | [a, b] => fun c hc => by
    have ha := a.toNat_lt
    have hb := b.toNat_lt
    rw [b64L] at hc
    simp only [four, List.take_succ_cons, List.take_zero, List.mem_cons, List.not_mem_nil, or_false] at hc
    rcases hc with rfl | rfl | rfl
    · exact ⟨_, by omega, rfl⟩
    · exact ⟨_, by omega, rfl⟩
    · exact ⟨_, by omega, rfl⟩
  | [a] => fun c hc => by
    have ha := a.toNat_lt
    rw [b64L] at hc
    simp only [four, List.take_succ_cons, List.take_zero, List.mem_cons, List.not_mem_nil, or_false] at hc
    rcases hc with rfl | rfl
    · exact ⟨_, by omega, rfl⟩
    · exact ⟨_, by omega, rfl⟩
  | [] => fun c hc => by rw [b64L] at hc; cases hc

/-- A mark stands, whatever is around it. -/
theorem mks_has (x y u : List UInt8) (h : ∀ c ∈ u, tq c = false) : u ∈ mks (x ++ 126 :: (u ++ 126 :: y)) := by
  unfold mks
  rw [brk_at tq 126 rfl, brk_at tq 126 rfl, brk_none tq u [] h, List.nil_append]
  exact mid_mem _ _ u (brk_ne tq x []) (brk_ne tq y [])

theorem stands_one {a : Nd} {l : Fo} (hm : may a l = true) (x y : ByteArray) : b64L (putT a l) ∈ finP (x ++ markS a l ++ y).data.toList := by
  have e : (x ++ markS a l ++ y).data.toList = x.data.toList ++ 126 :: (b64L (putT a l) ++ 126 :: y.data.toList) := by
    have hp := put_pos a l
    rw [ba_app, ba_app, show (markS a l).data.toList = markL a l from ba_list _, markL, putB, if_pos hm, if_neg (by omega)]
    simp
  rw [e]
  refine List.mem_flatMap.2 ⟨_, List.mem_append.2 (.inr (List.mem_singleton.2 rfl)), mks_has _ _ _ (fun c hc => ?_)⟩
  obtain ⟨n, hn, rfl⟩ := b64_signs _ c hc
  exact sg_tq n hn

theorem stands_two {a : Nd} {l : Fo} (hm : may a l = true) (x y : ByteArray) (p q : UInt8) (st : ByteArray) (hst : st.data.toList = p :: (markL a l ++ [q])) :
    b64L (putT a l) ∈ finP (x ++ ⟨#[46]⟩ ++ b64S st.data.toList ++ ⟨#[46]⟩ ++ y).data.toList := by
  have hp := put_pos a l
  have e : (x ++ ⟨#[46]⟩ ++ b64S st.data.toList ++ ⟨#[46]⟩ ++ y).data.toList = x.data.toList ++ 46 :: (b64L st.data.toList ++ 46 :: y.data.toList) := by
    rw [ba_app, ba_app, ba_app, ba_app, show (b64S st.data.toList).data.toList = b64L st.data.toList from ba_list _]
    simp
  have es : st.data.toList = [p] ++ 126 :: (b64L (putT a l) ++ 126 :: [q]) := by
    rw [hst, markL, putB, if_pos hm, if_neg (by omega)]; simp
  have hns : ∀ c ∈ b64L st.data.toList, nq c = false := fun c hc => by
    obtain ⟨n, hn, rfl⟩ := b64_signs _ c hc
    exact sg_nq n hn
  have hr : b64L st.data.toList ∈ brk nq (x ++ ⟨#[46]⟩ ++ b64S st.data.toList ++ ⟨#[46]⟩ ++ y).data.toList [] := by
    rw [e, brk_at nq 46 (by decide +kernel), brk_at nq 46 (by decide +kernel), brk_none nq (b64L st.data.toList) [] hns]
    simp
  have hne : b64L st.data.toList ≠ [] := by
    intro h0
    have h1 := congrArg List.length h0
    rw [b64_len, hst] at h1
    simp at h1
    omega
  have hin : st.data.toList ∈ insP (x ++ ⟨#[46]⟩ ++ b64S st.data.toList ++ ⟨#[46]⟩ ++ y).data.toList := by
    unfold insP
    refine List.mem_map.2 ⟨b64L st.data.toList, List.mem_filter.2 ⟨List.mem_filter.2 ⟨hr, ?_⟩, dOk_enc _⟩, g_enc _⟩
    cases hb : b64L st.data.toList with
    | nil => exact absurd hb hne
    | cons _ _ => rfl
  refine List.mem_flatMap.2 ⟨_, List.mem_append.2 (.inl hin), ?_⟩
  rw [es]
  refine mks_has _ _ _ (fun c hc => ?_)
  obtain ⟨n, hn, rfl⟩ := b64_signs _ c hc
  exact sg_tq n hn

/-- What stands is found. -/
theorem stands_in {a : Nd} {l : Fo} {M : List Kd} {P : List (List UInt8)} (hm : may a l = true) (h : FS M P) (hp : b64L (putT a l) ∈ P) : ∃ j, j < M.length ∧ (ordT (M.getD j kd0).a (M.getD j kd0).l a l == 0) = true := by
  obtain ⟨x, hx, r⟩ := h.whole _ hp a (norm l) (in_put hm)
  obtain ⟨j, hj, rfl⟩ := List.getElem_of_mem hx
  have e := ordT_zero r
  refine ⟨j, hj, ?_⟩
  rw [show M.getD j kd0 = M[j] from by simp [List.getD, List.getElem?_eq_getElem hj], e.1]
  have := ordT_norm a (l := M[j].l) (m := l) (e.2.trans (norm_norm l))
  rw [this]; rfl

/-- The loop over what was found: has t been met? -/
def StRel (a : Nd) (l : Fo) (w : World) (M : List Kd) (bv iv : Value) (wr : World) : Prop :=
  ∃ (i : Nat) (b : Bool), bv = .bool b ∧ iv = .int .i64 (i : Int) ∧ i ≤ M.length ∧ (∀ j, j < i → (ordT (M.getD j kd0).a (M.getD j kd0).l a l == 0) = true → b = true) ∧ Below w.heap.size w wr

set_option maxRecDepth 100000 in
set_option maxHeartbeats 4000000 in
theorem markStands_any (ah be : ByteArray) (ns : List Int) (LA : Option Addr) (cap : Nat) (w : World) (hns : NumsAt w w.heap.size ns LA) (hf : NumsFit ns) :
    Calls Tryz.prog 5 #[.string ah, .slice LA ns.length cap, .string be] w fun e w' => e = .returned (.bool true) ∧ Below w.heap.size w w' := by
  go_enter Tryz.func5, Tryz.ntmps5
  go_wp2_with fail
  refine (known9_any _).mono ?_
  rintro e w1 ⟨rfl, hb1⟩
  by_cases h2 : ah.size ≤ 200 ∧ be.size ≤ 200
  · obtain ⟨h2a, h2b⟩ := h2
    have q1 : ¬ (ah.size : Int) > 200 := by omega
    have q2 : ¬ (be.size : Int) > 200 := by omega
    have hn1 := nums_below9 hns hb1 (Nat.le_refl _)
    go_wp2_with fail
    refine (one_any ns LA cap w.heap.size w1 hb1.size hn1 hf).mono ?_
    have hmay := one_may ns
    have hlen := tape_len ns 4 0
    generalize tapeT ns 4 0 = T at *
    obtain ⟨⟨a, l⟩, k3⟩ := T
    rintro e w2 ⟨v, rfl, hb2', hrv⟩
    have hb2 := below_tr8 hb1 hb2'
    have hv2 : RepV w2 w2.heap.size a l v := RepVG.toV (fun _ h => h.2) hrv
    obtain ⟨hf1, A3, cap3, b3, o3, rfl, hn3, hA3, hl3⟩ := hrv
    have hxs := markS_size a l 372 (by simpa using hlen)
    obtain ⟨w3, hw3⟩ : ∃ W : World, W = w2.alloc (.cells #[.int .i64 a.kind, .int .i64 a.n, .string a.s, .slice A3 (flen l) cap3] 24) := ⟨_, rfl⟩
    have hb3 : Below w2.heap.size w2 w3 := by rw [hw3]; exact Below.alloc (Below.refl _ _) (Nat.le_refl _) _
    have hlt3 : w2.heap.size < w3.heap.size := by rw [hw3]; simp
    have hcs : w3.cell? ⟨w2.heap.size, 0, none⟩ = some (.int .i64 a.kind) ∧ w3.cell? ⟨w2.heap.size, 1, none⟩ = some (.int .i64 a.n) ∧ w3.cell? ⟨w2.heap.size, 2, none⟩ = some (.string a.s) ∧ w3.cell? ⟨w2.heap.size, 3, none⟩ = some (.slice A3 (flen l) cap3) := by rw [hw3]; simp [go_sem]
    have HC : Hid (∀ W, Below w3.heap.size w3 W → (W.cell? ⟨w2.heap.size, 0, none⟩ = some (.int .i64 a.kind) ∧ W.cell? ⟨w2.heap.size, 1, none⟩ = some (.int .i64 a.n) ∧ W.cell? ⟨w2.heap.size, 2, none⟩ = some (.string a.s) ∧ W.cell? ⟨w2.heap.size, 3, none⟩ = some (.slice A3 (flen l) cap3))) := fun W hW =>
      ⟨by rw [hW.cell (by simpa using hlt3)]; exact hcs.1, by rw [hW.cell (by simpa using hlt3)]; exact hcs.2.1, by rw [hW.cell (by simpa using hlt3)]; exact hcs.2.2.1, by rw [hW.cell (by simpa using hlt3)]; exact hcs.2.2.2⟩
    have HV : Hid (∀ W, Below w3.heap.size w3 W → RepV W W.heap.size a l (.agg #[.int .i64 a.kind, .int .i64 a.n, .string a.s, .slice A3 (flen l) cap3])) := fun W hW => hv2.keep (by have := hW.size; omega) (fun b o hb' => (hb3.trans (hW.mono hb3.size)).cell hb')
    have HB3 : Hid (Below w.heap.size w w3) := hb2.trans (hb3.mono hb2.size)
    have HM : Hid (may a l = true) := hmay
    obtain ⟨c0, c1, c2, c3⟩ := hcs
    clear hb1 hb2 hb2' hn1 hmay hlen hv2 hf1 hn3 hA3 hl3 hb3
    have ht := fun (W : World) (hW : Below w3.heap.size w3 W) => mtext_any a l _ W (HV.out W hW)
    obtain ⟨x, hx⟩ : ∃ x, x = markS a l := ⟨_, rfl⟩
    rw [← hx] at hxs ht
    have HX : Hid (x = markS a l) := hx
    clear hx
    go_upto_region 6 with fail
    rw [← hw3]
    clear hw3
    go_wp2_with fail
    refine (ht _ (Below.refl _ _)).mono ?_
    rintro e w4 ⟨rfl, hb4⟩
    have z1 : ¬ 9223372036854775807 < ah.size + x.size := by omega
    have z2 : ¬ 9223372036854775807 < ah.size + x.size + be.size := by omega
    have hs1 : (ah ++ x ++ be).size ≤ 30000 := by rw [ByteArray.size_append, ByteArray.size_append]; omega
    have hf1 := mfind_fi _ hs1
    have HP1 : Hid (b64L (putT a l) ∈ finP (ah ++ x ++ be).data.toList) := by show _ ∈ _; rw [HX.out]; exact stands_one HM.out ah be
    clear hs1
    go_wp2_with fail
    refine (hf1 _).mono ?_
    rintro e w5 ⟨M, um, rfl, m1, m2, m3, m4⟩
    have hb5 : Below w3.heap.size w3 w5 := below_tr8 hb4 m4
    have HJ1 : Hid (∃ j, j < M.length ∧ (ordT (M.getD j kd0).a (M.getD j kd0).l a l == 0) = true) := stands_in HM.out m2 HP1.out
    have HM1 : Hid (SlT w5 um M) := m1
    obtain ⟨d0, d1, d2, d3⟩ := HC.out w5 hb5
    clear hf1 m1 m2 m4 hb4 HP1 c0 c1 c2 c3
    have z3 : ¬ 9223372036854775807 < ah.size + 1 := by omega
    go_wp2_with fail
    refine (ht _ hb5).mono ?_
    rintro e w6 ⟨rfl, hb6'⟩
    have hb6 : Below w3.heap.size w3 w6 := below_tr8 hb5 hb6'
    have z4 : ¬ 9223372036854775807 < 1 + x.size := by omega
    have z5 : ¬ 9223372036854775807 < 1 + x.size + 1 := by omega
    have hyz : ((⟨#[120]⟩ : ByteArray) ++ x ++ ⟨#[121]⟩).size ≤ 502 := by rw [ByteArray.size_append, ByteArray.size_append]; show 1 + x.size + 1 ≤ _; omega
    have hyl : ((⟨#[120]⟩ : ByteArray) ++ x ++ ⟨#[121]⟩).data.toList = 120 :: (markL a l ++ [121]) := by
      rw [ba_app, ba_app, HX.out, show (markS a l).data.toList = markL a l from ba_list _]; simp
    obtain ⟨C, W7, hC, hCm, hconv, hby, _, hb7, hs7⟩ := bytes_row ((⟨#[120]⟩ : ByteArray) ++ x ++ ⟨#[121]⟩) w6 (by unfold maxLen; omega)
    have HM6 : Hid (SlT w6 um M) := HM1.out.below hb6'
    generalize hst : (⟨#[120]⟩ : ByteArray) ++ x ++ ⟨#[121]⟩ = st at *
    have hen := rbenc_any (some ⟨w6.heap.size, 0, none⟩) st.data.toList C W7 hby (by rw [size_list]; exact hC) (by rw [size_list]; omega)
    rw [size_list] at hen
    have hes : (b64S st.data.toList).size ≤ 671 := by rw [b64S_size, size_list]; omega
    have HP2 : Hid (b64L (putT a l) ∈ finP (ah ++ ⟨#[46]⟩ ++ b64S st.data.toList ++ ⟨#[46]⟩ ++ be).data.toList) := stands_two HM.out ah be 120 121 st hyl
    generalize b64S st.data.toList = z at *
    have HM7 : Hid (SlT W7 um M) := HM6.out.below hb7
    have HB7 : Hid (Below w3.heap.size w3 W7) := below_tr8 hb6 hb7
    clear hyl hyz hby hb6' hb5 d0 d1 d2 d3 HM1 HM6 hb6 hb7
    have y1 : ¬ 9223372036854775807 < ah.size + 1 + z.size := by omega
    have y2 : ¬ 9223372036854775807 < ah.size + 1 + z.size + 1 := by omega
    have y3 : ¬ 9223372036854775807 < ah.size + 1 + z.size + 1 + be.size := by omega
    have hs2 : (ah ++ ⟨#[46]⟩ ++ z ++ ⟨#[46]⟩ ++ be).size ≤ 30000 := by
      rw [ByteArray.size_append, ByteArray.size_append, ByteArray.size_append, ByteArray.size_append]; show ah.size + 1 + z.size + 1 + be.size ≤ _; omega
    have hf2 := mfind_fi _ hs2
    go_wp2_with fail
    refine hen.mono ?_
    rintro e w8 ⟨rfl, hb8⟩
    clear hst
    go_wp2_with fail
    refine (hf2 _).mono ?_
    rintro e w9 ⟨M', um', rfl, n1, n2, n3, n4⟩
    have HJ2 : Hid (∃ j, j < M'.length ∧ (ordT (M'.getD j kd0).a (M'.getD j kd0).l a l == 0) = true) := stands_in HM.out n2 HP2.out
    have HMa : Hid (SlT w9 um M) := HM7.out.below (below_tr8 hb8 n4)
    have HMb : Hid (SlT w9 um' M') := n1
    have HB9 : Hid (Below w3.heap.size w3 w9) := below_tr8 HB7.out (below_tr8 hb8 n4)
    clear hen hf2 hs2 hb8 n1 n2 n4 HM7 HB7 HP2 ht z1 z2 z3 z4 z5 y1 y2 y3 hes hxs hconv hC hCm hs7
    have hb9s := HB9.out.size
    obtain ⟨A9, c9, rfl, hA9⟩ := HMa.out.len
    obtain ⟨A8, c8, rfl, hA8⟩ := HMb.out.len
    have HA9 : Hid (M.length = 0 ∨ ∃ g, A9 = some ⟨g, 0, none⟩ ∧ RowT w9 g M) := hA9
    have HA8 : Hid (M'.length = 0 ∨ ∃ g, A8 = some ⟨g, 0, none⟩ ∧ RowT w9 g M') := hA8
    have hMl : M.length ≤ 100000 := m3
    have hMl' : M'.length ≤ 100000 := n3
    clear hA9 hA8 HMa HMb
    go_wp2_with fail
    go_loopw [10, 12] (fun bv iv wr => StRel a l w9 M bv iv wr) (fun _ iv _ => M.length - (intOf iv).toNat)
    case atStart => exact ⟨0, false, rfl, rfl, Nat.zero_le _, fun j hj => by omega, Below.refl _ _⟩
    case round =>
      obtain ⟨i, bb, rfl, rfl, hi, hbj, hb⟩ := hrel
      have hszr := hb.size
      have HB : Hid (Below w9.heap.size w9 wr) := hb
      have HBJ : Hid (∀ j, j < i → (ordT (M.getD j kd0).a (M.getD j kd0).l a l == 0) = true → bb = true) := hbj
      by_cases hlt : i < M.length
      · have hlt' : (i : Int) < (M.length : Int) := by omega
        obtain ⟨g, rfl, hrow⟩ : ∃ g, A9 = some ⟨g, 0, none⟩ ∧ RowT w9 g M := by rcases HA9.out with h | h; omega; exact h
        clear hbj hb
        cases bb with
        | true =>
          clear hrow
          go_wp2_with fail
          go_quiet (fail)
          go_wp2_with fail
          go_roundw
          case rel => exact ⟨i + 1, true, rfl, by go_num, by omega, fun _ _ _ => rfl, by first | exact HB.out | exact below_drewN HB.out _⟩
          case measure => simp [intOf]; omega
        | false =>
          have e1 := fun (W : World) (hW : Below w9.heap.size w9 W) => (hrow.below hW).at i hlt
          have c1 : ∀ W, Below w9.heap.size w9 W → Calls Tryz.prog 17 #[(M.getD i kd0).val, .agg #[.int .i64 a.kind, .int .i64 a.n, .string a.s, .slice A3 (flen l) cap3]] W fun e w' => e = .returned (.bool (ordT (M.getD i kd0).a (M.getD i kd0).l a l == 0)) ∧ Below w9.heap.size w9 w' := fun W hW => by
            obtain ⟨k1, k2⟩ := (hrow.below hW).ok i hlt
            obtain ⟨k3, k4⟩ := may_ar a l HM.out
            exact (refSame_any _ _ _ _ _ _ W.heap.size W (Kd.rep k1) (HV.out W (below_tr8 HB9.out hW)) (Nat.le_refl _) k2.1 k3 k2.2 k4).mono fun e w' h => ⟨h.1, hW.trans (h.2.mono hW.size)⟩
          have HN : Hid (∀ j, j < i + 1 → (ordT (M.getD j kd0).a (M.getD j kd0).l a l == 0) = true → (ordT (M.getD i kd0).a (M.getD i kd0).l a l == 0) = true) := fun j hj e => by
            by_cases hji : j < i
            · have := HBJ.out j hji e; cases this
            · rw [show i = j by omega]; exact e
          generalize hq : (ordT (M.getD i kd0).a (M.getD i kd0).l a l == 0) = qb at c1 HN
          clear hq
          generalize M.getD i kd0 = x at e1 c1
          have E1 : Hid _ := e1
          have C1 : Hid _ := c1
          have E2 : Hid (∀ W, Below w9.heap.size w9 W → (W.cell? ⟨w2.heap.size, 0, none⟩ = some (.int .i64 a.kind) ∧ W.cell? ⟨w2.heap.size, 1, none⟩ = some (.int .i64 a.n) ∧ W.cell? ⟨w2.heap.size, 2, none⟩ = some (.string a.s) ∧ W.cell? ⟨w2.heap.size, 3, none⟩ = some (.slice A3 (flen l) cap3))) := fun W hW => HC.out W (below_tr8 HB9.out hW)
          have hbd := HB.out.drew
          clear e1 c1 hrow
          go_wp2_with fail
          go_region_held3 (fun w' => (w'.cell? ⟨g, i * 4, none⟩ = some (.int .i64 x.a.kind) ∧ w'.cell? ⟨g, i * 4 + 1, none⟩ = some (.int .i64 x.a.n) ∧ w'.cell? ⟨g, i * 4 + 2, none⟩ = some (.string x.a.s) ∧ w'.cell? ⟨g, i * 4 + 3, none⟩ = some (.slice x.A (flen x.l) x.cap)) ∧ (w'.cell? ⟨w2.heap.size, 0, none⟩ = some (.int .i64 a.kind) ∧ w'.cell? ⟨w2.heap.size, 1, none⟩ = some (.int .i64 a.n) ∧ w'.cell? ⟨w2.heap.size, 2, none⟩ = some (.string a.s) ∧ w'.cell? ⟨w2.heap.size, 3, none⟩ = some (.slice A3 (flen l) cap3)) ∧ Below w9.heap.size w9 w')
            (first | exact ⟨E1.out _ hbd, E2.out _ hbd, hbd⟩ | exact ⟨E1.out _ ho1, E2.out _ ho1, ho1⟩)
            (first
              | (go_at_call 17; refine (C1.out _ ?_).mono ?_; exact (And.right (And.right (by assumption))); rintro e w10 ⟨rfl, ho1⟩))
          go_wp2_with fail
          go_roundw
          case rel => exact ⟨i + 1, qb, rfl, by go_num, by omega, HN.out, ho1⟩
          case measure => simp [intOf]; omega
      · have hlt' : ¬ (i : Int) < (M.length : Int) := by omega
        obtain rfl : bb = true := by
          obtain ⟨j, hj, e⟩ := HJ1.out
          exact hbj j (by omega) e
        clear hbj hb
        go_wp2_with fail
        skip
        go_loopw [11, 13] (fun bv iv wr => StRel a l w9 M' bv iv wr) (fun _ iv _ => M'.length - (intOf iv).toNat)
        case atStart => exact ⟨0, false, rfl, rfl, Nat.zero_le _, fun j hj => by omega, HB.out⟩
        case round =>
          obtain ⟨i, bb, rfl, rfl, hi, hbj, hb⟩ := hrel
          have hszr := hb.size
          have HB : Hid (Below w9.heap.size w9 wr) := hb
          have HBJ : Hid (∀ j, j < i → (ordT (M'.getD j kd0).a (M'.getD j kd0).l a l == 0) = true → bb = true) := hbj
          by_cases hlt : i < M'.length
          · have hlt' : (i : Int) < (M'.length : Int) := by omega
            obtain ⟨g, rfl, hrow⟩ : ∃ g, A8 = some ⟨g, 0, none⟩ ∧ RowT w9 g M' := by rcases HA8.out with h | h; omega; exact h
            clear hbj hb
            cases bb with
            | true =>
              clear hrow
              go_wp2_with fail
              go_quiet (fail)
              go_wp2_with fail
              go_roundw
              case rel => exact ⟨i + 1, true, rfl, by go_num, by omega, fun _ _ _ => rfl, by first | exact HB.out | exact below_drewN HB.out _⟩
              case measure => simp [intOf]; omega
            | false =>
              have e1 := fun (W : World) (hW : Below w9.heap.size w9 W) => (hrow.below hW).at i hlt
              have c1 : ∀ W, Below w9.heap.size w9 W → Calls Tryz.prog 17 #[(M'.getD i kd0).val, .agg #[.int .i64 a.kind, .int .i64 a.n, .string a.s, .slice A3 (flen l) cap3]] W fun e w' => e = .returned (.bool (ordT (M'.getD i kd0).a (M'.getD i kd0).l a l == 0)) ∧ Below w9.heap.size w9 w' := fun W hW => by
                obtain ⟨k1, k2⟩ := (hrow.below hW).ok i hlt
                obtain ⟨k3, k4⟩ := may_ar a l HM.out
                exact (refSame_any _ _ _ _ _ _ W.heap.size W (Kd.rep k1) (HV.out W (below_tr8 HB9.out hW)) (Nat.le_refl _) k2.1 k3 k2.2 k4).mono fun e w' h => ⟨h.1, hW.trans (h.2.mono hW.size)⟩
              have HN : Hid (∀ j, j < i + 1 → (ordT (M'.getD j kd0).a (M'.getD j kd0).l a l == 0) = true → (ordT (M'.getD i kd0).a (M'.getD i kd0).l a l == 0) = true) := fun j hj e => by
                by_cases hji : j < i
                · have := HBJ.out j hji e; cases this
                · rw [show i = j by omega]; exact e
              generalize hq : (ordT (M'.getD i kd0).a (M'.getD i kd0).l a l == 0) = qb at c1 HN
              clear hq
              generalize M'.getD i kd0 = x at e1 c1
              have E1 : Hid _ := e1
              have C1 : Hid _ := c1
              have E2 : Hid (∀ W, Below w9.heap.size w9 W → (W.cell? ⟨w2.heap.size, 0, none⟩ = some (.int .i64 a.kind) ∧ W.cell? ⟨w2.heap.size, 1, none⟩ = some (.int .i64 a.n) ∧ W.cell? ⟨w2.heap.size, 2, none⟩ = some (.string a.s) ∧ W.cell? ⟨w2.heap.size, 3, none⟩ = some (.slice A3 (flen l) cap3))) := fun W hW => HC.out W (below_tr8 HB9.out hW)
              have hbd := HB.out.drew
              clear e1 c1 hrow
              go_wp2_with fail
              go_region_held3 (fun w' => (w'.cell? ⟨g, i * 4, none⟩ = some (.int .i64 x.a.kind) ∧ w'.cell? ⟨g, i * 4 + 1, none⟩ = some (.int .i64 x.a.n) ∧ w'.cell? ⟨g, i * 4 + 2, none⟩ = some (.string x.a.s) ∧ w'.cell? ⟨g, i * 4 + 3, none⟩ = some (.slice x.A (flen x.l) x.cap)) ∧ (w'.cell? ⟨w2.heap.size, 0, none⟩ = some (.int .i64 a.kind) ∧ w'.cell? ⟨w2.heap.size, 1, none⟩ = some (.int .i64 a.n) ∧ w'.cell? ⟨w2.heap.size, 2, none⟩ = some (.string a.s) ∧ w'.cell? ⟨w2.heap.size, 3, none⟩ = some (.slice A3 (flen l) cap3)) ∧ Below w9.heap.size w9 w')
                (first | exact ⟨E1.out _ hbd, E2.out _ hbd, hbd⟩ | exact ⟨E1.out _ ho1, E2.out _ ho1, ho1⟩)
                (first
                  | (go_at_call 17; refine (C1.out _ ?_).mono ?_; exact (And.right (And.right (by assumption))); rintro e w10 ⟨rfl, ho1⟩))
              go_wp2_with fail
              go_roundw
              case rel => exact ⟨i + 1, qb, rfl, by go_num, by omega, HN.out, ho1⟩
              case measure => simp [intOf]; omega
          · have hlt' : ¬ (i : Int) < (M'.length : Int) := by omega
            obtain rfl : bb = true := by
              obtain ⟨j, hj, e⟩ := HJ2.out
              exact hbj j (by omega) e
            clear hbj hb
            go_wp2_with fail
            skip
            go_ret
            exact ⟨rfl, HB3.out.trans ((below_tr8 HB9.out HB.out).mono HB3.out.size)⟩
  · have h2c : (200 < ah.size) ∨ (¬ 200 < ah.size ∧ 200 < be.size) := by omega
    rcases h2c with h | ⟨h, h'⟩
    · have q1 : (ah.size : Int) > 200 := by omega
      go_wp2_with fail
      go_ret
      exact ⟨rfl, hb1⟩
    · have q1 : ¬ (ah.size : Int) > 200 := by omega
      have q2 : (be.size : Int) > 200 := by omega
      go_wp2_with fail
      go_ret
      exact ⟨rfl, hb1⟩

end Go.Proofs.YtgmmbfnmojjbkaaGreatDoor
