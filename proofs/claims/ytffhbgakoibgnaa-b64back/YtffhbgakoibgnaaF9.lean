import Derived.Test.YtffhbgakoibgnaaF8
namespace Go.Proofs.Ytffhbgakoibgnaa
open Go.RowKit
set_option linter.unusedVariables false
set_option linter.unusedSimpArgs false

theorem rd_nil (v k : Nat) (acc : List UInt8) : rd v k [] acc = some acc := rfl
theorem rd_bad (v k : Nat) (c : UInt8) (t acc : List UInt8) (h : sgI c < 0) : rd v k (c :: t) acc = none := by rw [rd, if_pos h]
theorem rd_two (v k : Nat) (c : UInt8) (t acc : List UInt8) (h : 0 ≤ sgI c) (hk : 2 ≤ k) : rd v k (c :: t) acc = rd ((v * 64 + sgN c) % 2 ^ (k - 2)) (k - 2) t (acc ++ [UInt8.ofNat ((v * 64 + sgN c) / 2 ^ (k - 2))]) := by rw [rd, if_neg (by omega), if_pos hk]
theorem rd_zero (v : Nat) (c : UInt8) (t acc : List UInt8) (h : 0 ≤ sgI c) : rd v 0 (c :: t) acc = rd (v * 64 + sgN c) 6 t acc := by rw [rd, if_neg (by omega), if_neg (by decide)]

theorem and0 (n : Nat) : bits .and .i64 (n : Int) 0 = 0 := by
  show IntKind.i64.wrap ((BitVec.ofInt 64 (n : Int) &&& BitVec.ofInt 64 ((0 : Nat) : Int)).toNat : Int) = _
  rw [BitVec.toNat_and, show (BitVec.ofInt 64 ((0 : Nat) : Int)).toNat = 0 from rfl, Nat.and_zero]; rfl
theorem and3 (n : Nat) (h : n < 9223372036854775808) : bits .and .i64 (n : Int) 3 = ((n % 4 : Nat) : Int) := by
  show IntKind.i64.wrap ((BitVec.ofInt 64 (n : Int) &&& BitVec.ofInt 64 ((3 : Nat) : Int)).toNat : Int) = _
  rw [BitVec.toNat_and, ofInt_u64 _ (by omega), ofInt_u64 _ (by omega), show (3 : Nat) = 2 ^ 2 - 1 from rfl, Nat.and_two_pow_sub_one_eq_mod, IntKind.wrap_i64]
  omega
theorem and15 (n : Nat) (h : n < 9223372036854775808) : bits .and .i64 (n : Int) 15 = ((n % 16 : Nat) : Int) := by
  show IntKind.i64.wrap ((BitVec.ofInt 64 (n : Int) &&& BitVec.ofInt 64 ((15 : Nat) : Int)).toNat : Int) = _
  rw [BitVec.toNat_and, ofInt_u64 _ (by omega), ofInt_u64 _ (by omega), show (15 : Nat) = 2 ^ 4 - 1 from rfl, Nat.and_two_pow_sub_one_eq_mod, IntKind.wrap_i64]
  omega

def RDec8 (w : World) (s : ByteArray) (ov vv bv iv : Value) (wr : World) : Prop :=
  ∃ (i v k : Nat) (acc : List UInt8), iv = .int .i64 (i : Int) ∧ i ≤ s.size ∧ vv = .int .i64 (v : Int) ∧ bv = .int .i64 (k : Int) ∧ (k = 0 ∨ k = 2 ∨ k = 4 ∨ k = 6) ∧ v < 2 ^ k ∧ OwnB wr w.heap.size ov acc ∧ acc.length ≤ i ∧
    rd v k (s.data.toList.drop i) acc = rd 0 0 s.data.toList [] ∧ Below w.heap.size w wr

theorem drop_cons (s : ByteArray) (i : Nat) (h : i < s.size) : s.data.toList.drop i = s[i]'h :: s.data.toList.drop (i + 1) := by
  rcases s with ⟨a⟩
  have h' : i < a.toList.length := by simpa [ByteArray.size] using h
  rw [List.drop_eq_getElem_cons h']
  rfl

set_option maxRecDepth 100000 in
set_option maxHeartbeats 1000000 in
theorem rbdec_any (s : ByteArray) (w : World) (hm : s.size ≤ 1000000) :
    Calls Try.prog 9 #[.string s] w fun e w' => DecEnd w s e w' := by
  obtain ⟨i5, hi, hz0, hz1, hz2⟩ := info_has Try.infoByte
  have hcase := rd_case s
  go_enter Try.func9, Try.ntmps9
  go_wp2_with fail
  have Hcase : Hid ((dN s = 0 ∧ rd 0 0 s.data.toList [] = some (dL s)) ∨ (dN s = 3 ∧ dL s = [] ∧ ∀ r, rd 0 0 s.data.toList [] = some r → b64S r ≠ s)) := hcase
  clear hcase
  go_loopw [4, 5, 6, 7] (fun ov vv bv iv wr => RDec8 w s ov vv bv iv wr) (fun _ _ _ iv _ => s.size - (intOf iv).toNat)
  case atStart => exact ⟨0, 0, 0, [], rfl, by omega, rfl, rfl, .inl rfl, by decide, OwnB.nil _ _, Nat.le_refl _, rfl, Below.refl _ _⟩
  case round =>
    obtain ⟨i, v, k, acc, rfl, hil, rfl, rfl, hk, hv, hown, hacl, hacc, hb⟩ := hrel
    have hsz := hb.size
    by_cases hp : i < s.size
    · have hp' : (i : Int) < (s.size : Int) := by omega
      rw [drop_cons s i hp] at hacc
      have hix : ∀ W, (Instr.index 9 (.string s) (.int .i64 (i : Int))).run Try.prog W = .ok (.int .u8 ((s[i]'hp).toNat : Int)) W := fun W => by simp [go_sem, hp]
      generalize s[i]'hp = c at *
      have hsg := fun W => rbsign_any c W
      have hrng := sgI_at c
      by_cases hneg : sgI c < 0
      · have hd : dN s = 3 ∧ dL s = [] := by
          rw [rd_bad _ _ _ _ _ hneg] at hacc
          rcases Hcase.out with ⟨_, h2⟩ | ⟨h1, h2, _⟩
          · rw [← hacc] at h2; cases h2
          · exact ⟨h1, h2⟩
        have HE : Hid (DecEnd w s (.returned (.tuple #[.slice none 0 0, .int .i64 3])) wr) := ⟨none, 0, by rw [hd.1, hd.2]; rfl, by rw [hd.2]; exact .inl rfl, by rw [hd.2]; exact Nat.le_refl _, Nat.zero_le _, hb⟩
        generalize sgI c = sc at *
        clear Hcase hacc hd hown hrng
        go_wp2_with (go_at_call 12; refine (hsg _).mono ?_; rintro e w1 ⟨rfl, hw1⟩; rw [hw1]; clear hw1 w1)
        exact bodyPost_ret (v := .tuple #[.slice none 0 0, .int .i64 3]) (by simp [results, Try.results9, go_sem]) rfl HE.out
      · have hsn : sgI c = (sgN c : Int) := by unfold sgN; omega
        have hsl := sgN_lt c
        rw [hsn] at hsg
        obtain ⟨q, hq⟩ : ∃ q, q = sgN c := ⟨_, rfl⟩
        rw [← hq] at hsg hsl
        have HQ : Hid (q = sgN c) := hq
        have HNg : Hid (0 ≤ sgI c) := by show _ ≤ _; omega
        have Hacc : Hid (rd v k (c :: s.data.toList.drop (i + 1)) acc = rd 0 0 s.data.toList []) := hacc
        have HO : Hid (OwnB wr w.heap.size u4 acc) := hown
        clear hq hneg hacc hown hrng hsn
        rcases hk with rfl | rfl | rfl | rfl
        · go_wp2_with (go_at_call 12; refine (hsg _).mono ?_; rintro e w1 ⟨rfl, hw1⟩; rw [hw1]; clear hw1 w1)
          go_roundw
          case rel => exact ⟨i + 1, v * 64 + q, 6, acc, by simp, by omega, by simp, rfl, by simp, by (simp at hv ⊢; omega), HO.out, by omega, by rw [HQ.out, ← rd_zero v c _ _ HNg.out]; exact Hacc.out, hb⟩
          case measure =>
            simp [intOf]
            omega
        · have hv4 : v < 4 := hv
          obtain ⟨T, hT⟩ : ∃ T, T = v * 64 + q := ⟨_, rfl⟩
          have qT : (v : Int) * 64 + (q : Int) = (T : Int) := by omega
          have hTl : T < 4 * 64 := by omega
          obtain ⟨d, hd⟩ : ∃ d, d = T / 1 := ⟨_, rfl⟩
          have hdl : d < 256 := by omega
          have qd : (T : Int) / 1 = (d : Int) := by omega
          obtain ⟨mm, hmm⟩ : ∃ mm, mm = T % 1 := ⟨_, rfl⟩
          have qa : bits .and .i64 (T : Int) 0 = (mm : Int) := by
            first | (rw [and3 _ (by omega), hmm]) | (rw [and15 _ (by omega), hmm]) | (rw [and0]; omega)
          have hml : mm < 2 ^ 0 := by show mm < 1; omega
          have Hnext : Hid (rd mm 0 (s.data.toList.drop (i + 1)) (acc ++ [UInt8.ofNat d]) = rd 0 0 s.data.toList []) := by
            show _ = _
            rw [← Hacc.out, rd_two v 2 c _ _ HNg.out (by decide), ← HQ.out, ← hT, hmm, hd]
          have Hd : Hid ([Value.int .u8 (d : Int)] = Lib.byteCells [UInt8.ofNat d]) := by
            show _ = _
            simp [Lib.byteCells] <;> omega
          have Hml : Hid (mm < 2 ^ 0) := hml
          have had : acc.length ≤ 1000000 := by omega
          clear hT hd hmm hv hv4 Hacc HQ HNg hml
          try rw [Int.ediv_one] at qd
          first | (have qa2 : bits .and .i64 (d : Int) 0 = (mm : Int) := by rw [← qd]; exact qa) | skip
          go_wp2_with (first | (go_at_call 12; refine (hsg _).mono ?_; rintro e w1 ⟨rfl, hw1⟩; rw [hw1]; clear hw1 w1) | (at_builtin; refine wpList_append_any _ rfl _ _ 22 rfl w.heap.size 5 i5 (.int .u8 0) 1 1 Try.underlying22 hi hz0 hz1 hz2 rfl (by decide) u4 acc.length (Lib.byteCells acc) rfl (HO.out.alloc _) (some ⟨wr.heap.size, 0, none⟩) 1 1 [.int .u8 (d : Int)] rfl (.inr ⟨_, rfl, rfl, World.news_of_block (t := 5) (fr := (0, 0)) (heap_alloc_new wr _), by simp [Value.oneCell']⟩) (by unfold maxLen; omega) (by omega) (by simp; omega) ?_))
          intro v6 w6 hown6 hgrow6 hat6
          have hb6 : Below w.heap.size w w6 := hb.trans (below_end HO.out hgrow6 hat6 hsz)
          have O6 : Hid (OwnB w6 w.heap.size v6 (acc ++ [UInt8.ofNat d])) := append_end hown6 Hd.out rfl
          clear hown6 hgrow6 hat6 HO
          go_wp2_with fail
          go_roundw
          case rel => exact ⟨i + 1, mm, 0, acc ++ [UInt8.ofNat d], by simp, by omega, rfl, rfl, by simp, Hml.out, O6.out, by simp; omega, Hnext.out, hb6⟩
          case measure =>
            simp [intOf]
            omega
        · have hv4 : v < 16 := hv
          obtain ⟨T, hT⟩ : ∃ T, T = v * 64 + q := ⟨_, rfl⟩
          have qT : (v : Int) * 64 + (q : Int) = (T : Int) := by omega
          have hTl : T < 16 * 64 := by omega
          obtain ⟨d, hd⟩ : ∃ d, d = T / 4 := ⟨_, rfl⟩
          have hdl : d < 256 := by omega
          have qd : (T : Int) / 4 = (d : Int) := by omega
          obtain ⟨mm, hmm⟩ : ∃ mm, mm = T % 4 := ⟨_, rfl⟩
          have qa : bits .and .i64 (T : Int) 3 = (mm : Int) := by
            first | (rw [and3 _ (by omega), hmm]) | (rw [and15 _ (by omega), hmm]) | (rw [and0]; omega)
          have hml : mm < 2 ^ 2 := by show mm < 4; omega
          have Hnext : Hid (rd mm 2 (s.data.toList.drop (i + 1)) (acc ++ [UInt8.ofNat d]) = rd 0 0 s.data.toList []) := by
            show _ = _
            rw [← Hacc.out, rd_two v 4 c _ _ HNg.out (by decide), ← HQ.out, ← hT, hmm, hd]
          have Hd : Hid ([Value.int .u8 (d : Int)] = Lib.byteCells [UInt8.ofNat d]) := by
            show _ = _
            simp [Lib.byteCells] <;> omega
          have Hml : Hid (mm < 2 ^ 2) := hml
          have had : acc.length ≤ 1000000 := by omega
          clear hT hd hmm hv hv4 Hacc HQ HNg hml
          try rw [Int.ediv_one] at qd
          first | (have qa2 : bits .and .i64 (d : Int) 3 = (mm : Int) := by rw [← qd]; exact qa) | skip
          go_wp2_with (first | (go_at_call 12; refine (hsg _).mono ?_; rintro e w1 ⟨rfl, hw1⟩; rw [hw1]; clear hw1 w1) | (at_builtin; refine wpList_append_any _ rfl _ _ 22 rfl w.heap.size 5 i5 (.int .u8 0) 1 1 Try.underlying22 hi hz0 hz1 hz2 rfl (by decide) u4 acc.length (Lib.byteCells acc) rfl (HO.out.alloc _) (some ⟨wr.heap.size, 0, none⟩) 1 1 [.int .u8 (d : Int)] rfl (.inr ⟨_, rfl, rfl, World.news_of_block (t := 5) (fr := (0, 0)) (heap_alloc_new wr _), by simp [Value.oneCell']⟩) (by unfold maxLen; omega) (by omega) (by simp; omega) ?_))
          intro v6 w6 hown6 hgrow6 hat6
          have hb6 : Below w.heap.size w w6 := hb.trans (below_end HO.out hgrow6 hat6 hsz)
          have O6 : Hid (OwnB w6 w.heap.size v6 (acc ++ [UInt8.ofNat d])) := append_end hown6 Hd.out rfl
          clear hown6 hgrow6 hat6 HO
          go_wp2_with fail
          go_roundw
          case rel => exact ⟨i + 1, mm, 2, acc ++ [UInt8.ofNat d], by simp, by omega, rfl, rfl, by simp, Hml.out, O6.out, by simp; omega, Hnext.out, hb6⟩
          case measure =>
            simp [intOf]
            omega
        · have hv4 : v < 64 := hv
          obtain ⟨T, hT⟩ : ∃ T, T = v * 64 + q := ⟨_, rfl⟩
          have qT : (v : Int) * 64 + (q : Int) = (T : Int) := by omega
          have hTl : T < 64 * 64 := by omega
          obtain ⟨d, hd⟩ : ∃ d, d = T / 16 := ⟨_, rfl⟩
          have hdl : d < 256 := by omega
          have qd : (T : Int) / 16 = (d : Int) := by omega
          obtain ⟨mm, hmm⟩ : ∃ mm, mm = T % 16 := ⟨_, rfl⟩
          have qa : bits .and .i64 (T : Int) 15 = (mm : Int) := by
            first | (rw [and3 _ (by omega), hmm]) | (rw [and15 _ (by omega), hmm]) | (rw [and0]; omega)
          have hml : mm < 2 ^ 4 := by show mm < 16; omega
          have Hnext : Hid (rd mm 4 (s.data.toList.drop (i + 1)) (acc ++ [UInt8.ofNat d]) = rd 0 0 s.data.toList []) := by
            show _ = _
            rw [← Hacc.out, rd_two v 6 c _ _ HNg.out (by decide), ← HQ.out, ← hT, hmm, hd]
          have Hd : Hid ([Value.int .u8 (d : Int)] = Lib.byteCells [UInt8.ofNat d]) := by
            show _ = _
            simp [Lib.byteCells] <;> omega
          have Hml : Hid (mm < 2 ^ 4) := hml
          have had : acc.length ≤ 1000000 := by omega
          clear hT hd hmm hv hv4 Hacc HQ HNg hml
          try rw [Int.ediv_one] at qd
          first | (have qa2 : bits .and .i64 (d : Int) 15 = (mm : Int) := by rw [← qd]; exact qa) | skip
          go_wp2_with (first | (go_at_call 12; refine (hsg _).mono ?_; rintro e w1 ⟨rfl, hw1⟩; rw [hw1]; clear hw1 w1) | (at_builtin; refine wpList_append_any _ rfl _ _ 22 rfl w.heap.size 5 i5 (.int .u8 0) 1 1 Try.underlying22 hi hz0 hz1 hz2 rfl (by decide) u4 acc.length (Lib.byteCells acc) rfl (HO.out.alloc _) (some ⟨wr.heap.size, 0, none⟩) 1 1 [.int .u8 (d : Int)] rfl (.inr ⟨_, rfl, rfl, World.news_of_block (t := 5) (fr := (0, 0)) (heap_alloc_new wr _), by simp [Value.oneCell']⟩) (by unfold maxLen; omega) (by omega) (by simp; omega) ?_))
          intro v6 w6 hown6 hgrow6 hat6
          have hb6 : Below w.heap.size w w6 := hb.trans (below_end HO.out hgrow6 hat6 hsz)
          have O6 : Hid (OwnB w6 w.heap.size v6 (acc ++ [UInt8.ofNat d])) := append_end hown6 Hd.out rfl
          clear hown6 hgrow6 hat6 HO
          go_wp2_with fail
          go_roundw
          case rel => exact ⟨i + 1, mm, 4, acc ++ [UInt8.ofNat d], by simp, by omega, rfl, rfl, by simp, Hml.out, O6.out, by simp; omega, Hnext.out, hb6⟩
          case measure =>
            simp [intOf]
            omega
    · have hp' : ¬ (i : Int) < (s.size : Int) := by omega
      have hend : s.data.toList.drop i = [] := List.drop_of_length_le (by rw [size_list]; omega)
      rw [hend, rd_nil] at hacc
      have hal : acc.length ≤ 1000000 := by omega
      obtain ⟨A3, cap3, rfl, hby, hc3, hm3⟩ := hown.byAt
      have he := rbenc_any A3 acc cap3 wr hby hc3 hal
      clear hown hend hacl
      by_cases hq : b64S acc = s
      · have hd : dN s = 0 ∧ dL s = acc := by
          rcases Hcase.out with ⟨h1, h2⟩ | ⟨_, _, h3⟩
          · rw [← hacc] at h2; injection h2 with h2; exact ⟨h1, h2.symm⟩
          · exact absurd hq (h3 acc hacc.symm)
        have HE : ∀ w2, Below wr.heap.size wr w2 → Hid (DecEnd w s (.returned (.tuple #[.slice A3 acc.length cap3, .int .i64 0])) w2) := fun w2 hb2 => ⟨A3, cap3, by rw [hd.1, hd.2], by rw [hd.2]; exact (hby.below hb2).keep hb2.size (fun _ _ _ => rfl), by rw [hd.2]; exact hc3, hm3, hb.trans (hb2.mono hsz)⟩
        rw [hq] at he
        clear Hcase hacc hq hd hby
        go_wp2_with fail
        refine he.mono ?_
        rintro e w2 ⟨rfl, hb2⟩
        go_wp2_with fail
        exact bodyPost_ret (v := .tuple #[.slice A3 acc.length cap3, .int .i64 0]) (by simp [results, Try.results9, go_sem]) rfl (HE w2 hb2).out
      · have hd : dN s = 3 ∧ dL s = [] := by
          rcases Hcase.out with ⟨h1, h2⟩ | ⟨h1, h2, _⟩
          · rw [← hacc] at h2; injection h2 with h2
            rcases d_case s with ⟨_, h5, _⟩ | ⟨h5, h6, _⟩
            · exact absurd (by rw [h2]; exact h5) hq
            · exact ⟨h5, h6⟩
          · exact ⟨h1, h2⟩
        have HE : ∀ w2, Below wr.heap.size wr w2 → Hid (DecEnd w s (.returned (.tuple #[.slice none 0 0, .int .i64 3])) w2) := fun w2 hb2 => ⟨none, 0, by rw [hd.1, hd.2]; rfl, by rw [hd.2]; exact .inl rfl, by rw [hd.2]; exact Nat.le_refl _, Nat.zero_le _, hb.trans (hb2.mono hsz)⟩
        have hnb := toList_ne hq
        generalize b64S acc = st at *
        clear Hcase hacc hd hby
        go_wp2_with fail
        refine he.mono ?_
        rintro e w2 ⟨rfl, hb2⟩
        go_wp2_with fail
        exact bodyPost_ret (v := .tuple #[.slice none 0 0, .int .i64 3]) (by simp [results, Try.results9, go_sem]) rfl (HE w2 hb2).out

end Go.Proofs.Ytffhbgakoibgnaa
