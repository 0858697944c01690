import Derived.Test.YtffhbgakoibgnaaFA
import Derived.Deep.DeepCutAuto
namespace Go.Proofs.Ytffhbgakoibgnaa
open Go.RowKit
set_option linter.unusedVariables false
set_option linter.unusedSimpArgs false

theorem ByAt.set {w : World} {B g : Nat} {xs : List UInt8} (h : ByAt w B (some ⟨g, 0, none⟩) xs) (k : Nat) (hk : k < xs.length) (z : UInt8) : ByAt (w.setCell ⟨g, k, none⟩ (.int .u8 (z.toNat : Int))) B (some ⟨g, 0, none⟩) (xs.set k z) := by
  rcases h with h | ⟨b, o, e, hb, hc⟩
  · rw [h] at hk; simp at hk
  · injection e with e
    injection e with e1 e2
    subst e1 e2
    refine .inr ⟨g, 0, rfl, hb, fun i hi => ?_⟩
    rw [List.length_set] at hi
    rw [Nat.zero_add]
    have hc' := fun i hi => by have := hc i hi; rwa [Nat.zero_add] at this
    by_cases hik : i = k
    · subst hik
      rw [World.cell?_setCell_same _ _ _ (hc' i hi)]
      simp [List.getD, hi]
    · rw [World.cell?_setCell_other _ _ _ _ (by intro e; injection e with _ e _; omega), hc' i hi]
      simp [List.getD, List.getElem?_set_ne (Ne.symm hik)]

theorem xor_u8 (y : UInt8) (b : Int) (h0 : 0 ≤ b) (h1 : b < 256) : ∃ z : UInt8, bits .xor .u8 (y.toNat : Int) b = (z.toNat : Int) := by
  obtain ⟨n, rfl⟩ := Int.eq_ofNat_of_zero_le h0
  have hx : y.toNat ^^^ n < 2 ^ 8 := Nat.xor_lt_two_pow y.toNat_lt (by omega)
  refine ⟨UInt8.ofNat (y.toNat ^^^ n), ?_⟩
  rw [u8_xor_nat _ _ y.toNat_lt (by omega)]
  generalize y.toNat ^^^ n = m at *
  rw [show (UInt8.ofNat m).toNat = m % 256 from by simp]
  omega

theorem rem_case8 (x : Int) (p : Nat) (hm : p ≤ 1000000) : (decide (x.tmod ((p : Int) + 2) < 0) = true ∧ ∃ k : Nat, k < p + 2 ∧ Value.int .i64 (wrap64 (x.tmod ((p : Int) + 2) + ((p : Int) + 2))) = .int .i64 (k : Int)) ∨ (decide (x.tmod ((p : Int) + 2) < 0) = false ∧ ∃ k : Nat, k < p + 2 ∧ Value.int .i64 (x.tmod ((p : Int) + 2)) = .int .i64 (k : Int)) := by
  have l1 := Int.lt_tmod_of_pos x (show (0 : Int) < (p : Int) + 2 by omega)
  have l2 := Int.tmod_lt_of_pos x (show (0 : Int) < (p : Int) + 2 by omega)
  generalize x.tmod ((p : Int) + 2) = q at *
  by_cases hq : q < 0
  · exact .inl ⟨decide_eq_true hq, (q + ((p : Int) + 2)).toNat, by omega, by congr 1; unfold wrap64; omega⟩
  · exact .inr ⟨decide_eq_false hq, q.toNat, by omega, by congr 1; omega⟩

/-- Four texts stand in block g. -/
def Rw4 (g : Nat) (a b c d : ByteArray) (w : World) : Prop :=
  w.cell? ⟨g, 0, none⟩ = some (.string a) ∧ w.cell? ⟨g, 1, none⟩ = some (.string b) ∧ w.cell? ⟨g, 2, none⟩ = some (.string c) ∧ w.cell? ⟨g, 3, none⟩ = some (.string d)

theorem Rw4.below {g : Nat} {a b c d : ByteArray} {w w' : World} (h : Rw4 g a b c d w) (hg : g < w.heap.size) (hb : Below w.heap.size w w') : Rw4 g a b c d w' := by
  obtain ⟨h0, h1, h2, h3⟩ := h
  exact ⟨by rw [hb.cell (by simpa using hg)]; exact h0, by rw [hb.cell (by simpa using hg)]; exact h1, by rw [hb.cell (by simpa using hg)]; exact h2, by rw [hb.cell (by simpa using hg)]; exact h3⟩

theorem Rw4.at {g : Nat} {a b c d : ByteArray} {w : World} (h : Rw4 g a b c d w) (N : Nat) (ha : a.size ≤ N) (hb : b.size ≤ N) (hc : c.size ≤ N) (hd : d.size ≤ N) (i : Nat) (hi : i < 4) : ∃ x : ByteArray, x.size ≤ N ∧ w.cell? ⟨g, i, none⟩ = some (.string x) := by
  obtain ⟨h0, h1, h2, h3⟩ := h
  rcases (show i = 0 ∨ i = 1 ∨ i = 2 ∨ i = 3 by omega) with rfl | rfl | rfl | rfl
  · exact ⟨a, ha, h0⟩
  · exact ⟨b, hb, h1⟩
  · exact ⟨c, hc, h2⟩
  · exact ⟨d, hd, h3⟩

set_option maxRecDepth 100000 in
set_option maxHeartbeats 2000000 in
theorem b64All_any (A : Option Addr) (xs : List UInt8) (ca : Nat) (s : ByteArray) (at' b' : Int) (hb0 : 0 ≤ b') (hb1 : b' < 256) (w : World) (hx : ByAt w w.heap.size A xs) (hxc : xs.length ≤ ca) :
    Calls Try.prog 3 #[.slice A xs.length ca, .string s, .int .i64 at', .int .u8 b'] w fun e w' => e = .returned (.bool true) ∧ Below w.heap.size w w' := by
  go_enter Try.func3, Try.ntmps3
  go_wp2_with fail
  refine (known8_any w).mono ?_
  rintro e w1 ⟨rfl, h1⟩
  by_cases ha : xs.length ≤ 400
  · by_cases hs : s.size ≤ 400
    · have ha' : ¬ (xs.length : Int) > 400 := by omega
      have hs' : ¬ (s.size : Int) > 400 := by omega
      have hx1 := hx.up h1
      have k1 := rbenc_any A xs ca w1 hx1 hxc (by omega)
      have hsz := b64S_size xs
      obtain ⟨st, hst⟩ : ∃ st, st = b64S xs := ⟨_, rfl⟩
      rw [← hst] at k1 hsz
      have l1 : st.size + 2 ≤ 9223372036854775807 := by omega
      go_wp2_with fail
      refine k1.mono ?_
      rintro e w2 ⟨rfl, h2⟩
      obtain ⟨C, W3, hC, hCm, hconv, hby, hfz, hb3, hs3⟩ := bytes_row (st ++ ⟨#[65, 65]⟩) w2 (by rw [ByteArray.size_append]; unfold maxLen; show st.size + 2 ≤ _; omega)
      obtain ⟨p, hp⟩ : ∃ p, p = st.size := ⟨_, rfl⟩
      have hm : (st ++ ⟨#[65, 65]⟩ : ByteArray).size = p + 2 := by rw [ByteArray.size_append, hp]; rfl
      have htl : (st ++ ⟨#[65, 65]⟩ : ByteArray).data.toList.length = p + 2 := by rw [size_list]; exact hm
      rw [hm] at hC hconv hfz
      obtain ⟨ts, hts⟩ : ∃ ts, ts = (st ++ ⟨#[65, 65]⟩ : ByteArray).data.toList := ⟨_, rfl⟩
      rw [← hts] at hby htl
      have hps : p ≤ 700 := by omega
      have HST : Hid (st = b64S xs) := hst
      have HFZ : Hid (∀ j, j < p + 2 → W3.frozen? ⟨w2.heap.size, j, none⟩ = false) := hfz
      have HBY : Hid (ByAt W3 W3.heap.size (some ⟨w2.heap.size, 0, none⟩) ts) := hby
      have HX : Hid (ByAt w w.heap.size A xs) := hx
      have hgw : w.heap.size ≤ w2.heap.size := (below_tr8 h1 h2).size
      have h3 := below_tr8 h1 (below_tr8 h2 hb3)
      have hg3 : w2.heap.size < W3.heap.size := by omega
      have hrem := rem_case8 at' p (by omega)
      clear hst hfz hby hx hx1 hsz hp hts h1 h2 hb3 k1 hs3
      rcases hrem with ⟨hq, k, hkz, hk⟩ | ⟨hq, k, hkz, hk⟩
      · go_upto_region 9 with fail
        rw [hk]
        clear hk hq hconv
        generalize w2.heap.size = g at *
        obtain ⟨y, hy⟩ : ∃ y, y = ts.getD k 0 := ⟨_, rfl⟩
        have cy : W3.cell? ⟨g, k, none⟩ = some (.int .u8 (y.toNat : Int)) := by
          rcases HBY.out with h | ⟨b, o, e, hb, hc⟩
          · rw [h] at htl; simp at htl
          · injection e with e
            injection e with e1 e2
            subst e1 e2
            have := hc k (by omega)
            rw [Nat.zero_add] at this
            rw [this, hy]
        have fy := HFZ.out k hkz
        obtain ⟨z, hz⟩ := xor_u8 y b' hb0 hb1
        have hb4 : Hid (ByAt (W3.setCell ⟨g, k, none⟩ (.int .u8 (z.toNat : Int))) W3.heap.size (some ⟨g, 0, none⟩) (ts.set k z)) := HBY.out.set k (by omega) z
        have h4 : Hid (Below w.heap.size w (W3.setCell ⟨g, k, none⟩ (.int .u8 (z.toNat : Int)))) := h3.setCell hgw _
        have hk1 : (k : Int) < (p : Int) + 2 := by omega
        have hs4 : (W3.setCell ⟨g, k, none⟩ (.int .u8 (z.toNat : Int))).heap.size = W3.heap.size := by simp [World.setCell]
        have hul : (ts.set k z).length = p + 2 := by rw [List.length_set]; exact htl
        clear hy hkz HFZ
        go_upto_region 10 with fail
        clear hz cy fy
        generalize (W3.setCell ⟨g, k, none⟩ (.int .u8 (z.toNat : Int))) = W4 at *
        obtain ⟨us, hus⟩ : ∃ us, us = ts.set k z := ⟨_, rfl⟩
        rw [← hus] at hb4 hul
        clear hus HBY htl
        have HU : Hid (∀ W, Below W4.heap.size W4 W → ByAt W W3.heap.size (some ⟨g, 0, none⟩) us) := fun W hW => hb4.out.below (hW.mono (by omega))
        have hcv : ∀ W, Below W4.heap.size W4 W → ((convert 22 9 (.slice (some ⟨g, 0, none⟩) (p + 2) C)).run Try.prog W = .ok (.string ⟨us.toArray⟩) W ∧ (convert 22 9 (.slice (some ⟨g, 0, none⟩) (p + 1) C)).run Try.prog W = .ok (.string ⟨(us.take (p + 1)).toArray⟩) W ∧ (convert 22 9 (.slice (some ⟨g, 0, none⟩) p C)).run Try.prog W = .ok (.string ⟨(us.take p).toArray⟩) W) := fun W hW => by
          have c0 := conv_bytes W _ (some ⟨g, 0, none⟩) us C (HU.out W hW)
          have c1 := conv_bytes W _ (some ⟨g, 0, none⟩) (us.take (p + 1)) C ((HU.out W hW).take _)
          have c2 := conv_bytes W _ (some ⟨g, 0, none⟩) (us.take p) C ((HU.out W hW).take _)
          rw [hul] at c0
          rw [List.length_take, hul, show min (p + 1) (p + 2) = p + 1 from by omega] at c1
          rw [List.length_take, hul, show min p (p + 2) = p from by omega] at c2
          exact ⟨c0, c1, c2⟩
        obtain ⟨t0, ht0⟩ : ∃ t : ByteArray, t = ⟨us.toArray⟩ := ⟨_, rfl⟩
        obtain ⟨t1, ht1⟩ : ∃ t : ByteArray, t = ⟨(us.take (p + 1)).toArray⟩ := ⟨_, rfl⟩
        obtain ⟨t2, ht2⟩ : ∃ t : ByteArray, t = ⟨(us.take p).toArray⟩ := ⟨_, rfl⟩
        have z0 : t0.size ≤ 1000 := by rw [ht0, ← size_list, ba_list, hul]; omega
        have z1 : t1.size ≤ 1000 := by rw [ht1, ← size_list, ba_list, List.length_take]; omega
        have z2 : t2.size ≤ 1000 := by rw [ht2, ← size_list, ba_list, List.length_take]; omega
        rw [← ht0, ← ht1, ← ht2] at hcv
        obtain ⟨q0, q1, q2⟩ := hcv W4 (Below.refl _ _)
        obtain ⟨r0, r1, r2⟩ := hcv W4.drew (Below.refl _ _).drew
        have p1 : p + 1 ≤ C := by omega
        have p2 : p ≤ C := by omega
        clear hcv ht0 ht1 ht2 hul hb4
        have h4 : Below w.heap.size w W4 := h4.out
        clear hs4
        go_region
        clear q0 q1 q2 r0 r1 r2 HU hb0 hb1
        go_wp2_with fail
        have hrow : Rw4 W4.heap.size s t0 t1 t2 (W4.alloc (.cells #[.string s, .string t0, .string t1, .string t2] 9)).drew := ⟨by simp [go_sem], by simp [go_sem], by simp [go_sem], by simp [go_sem]⟩
        have hb5 : Below w.heap.size w (W4.alloc (.cells #[.string s, .string t0, .string t1, .string t2] 9)).drew := (h4.alloc h4.size _).drew
        have hsz5 : W4.heap.size < (W4.alloc (.cells #[.string s, .string t0, .string t1, .string t2] 9)).drew.heap.size := by simp
        generalize (W4.alloc (.cells #[.string s, .string t0, .string t1, .string t2] 9)).drew = w5 at *
        generalize W4.heap.size = g5 at *
        clear h4
        rw [show p + 2 - 1 = p + 1 from rfl]
        go_loopw [12] (fun iv wr => ∃ i : Nat, iv = .int .i64 (i : Int) ∧ i ≤ 4 ∧ Below w5.heap.size w5 wr) (fun iv _ => 4 - (intOf iv).toNat)
        case atStart => exact ⟨0, rfl, by omega, Below.refl _ _⟩
        case round =>
          obtain ⟨i, rfl, hi4, hb⟩ := hrel
          have hsr := hb.size
          by_cases hp4 : i < 4
          · have hp' : (i : Int) < 4 := by omega
            obtain ⟨x, hx5, hcell⟩ := (hrow.below hsz5 hb).at 1000 (by omega) (by omega) (by omega) (by omega) i hp4
            have k1 := fun W => bdec_is x W (by omega) (dL x) (dN x) _ rfl rfl rfl
            have k2 := fun W => rbdec_any x W (by omega)
            unfold DecEnd at k2
            generalize dL x = dx at *
            generalize dN x = dn at *
            go_wp2_with fail
            refine (k1 _).mono ?_
            rintro e w6 ⟨X, cx, rfl, hx6, hxc6, h6⟩
            have c6 := (h6.cell (p := ⟨g5, i, none⟩) (by show g5 < _; omega)).trans hcell
            have bb6 := hb.trans (h6.mono hsr)
            have hs6 := h6.size
            clear hcell
            go_wp2_with fail
            refine (k2 _).mono ?_
            rintro e w7 ⟨Y, cy, rfl, hy7, hyc7, hym7, h7⟩
            have cX := conv_bytes w7 _ X dx cx (hx6.up h7)
            have cY := conv_bytes w7 _ Y dx cy hy7
            have bb7 := bb6.trans (h7.mono (by omega))
            clear c6 hx6 hy7 k1 k2 h6 h7
            generalize (⟨dx.toArray⟩ : ByteArray) = dxs at *
            go_wp2_with fail
            go_roundw
            case rel => exact ⟨i + 1, by simp, by omega, bb7⟩
            case measure =>
              simp [intOf]
              omega
          · have hp' : ¬ (i : Int) < 4 := by omega
            have h9 : Below w.heap.size w wr := hb5.trans (hb.mono hb5.size)
            have k1 := fun W (hW : Below w.heap.size w W) => benc_is A xs ca W (HX.out.up hW) hxc (by omega) _ rfl st HST.out.symm
            have k2 := fun W (hW : Below w.heap.size w W) => rbenc_any A xs ca W (HX.out.up hW) hxc (by omega)
            rw [← HST.out] at k2
            go_wp2_with fail
            refine (k1 _ h9).mono ?_
            rintro e w6 ⟨rfl, h6⟩
            have h10 := below_tr8 h9 h6
            clear k1
            go_wp2_with fail
            refine (k2 _ h10).mono ?_
            rintro e w7 ⟨rfl, h7⟩
            clear k2
            go_wp2_with fail
            go_ret
            exact ⟨rfl, below_tr8 h10 h7⟩
      · go_upto_region 9 with fail
        clear hk hq hconv
        generalize w2.heap.size = g at *
        obtain ⟨y, hy⟩ : ∃ y, y = ts.getD k 0 := ⟨_, rfl⟩
        have cy : W3.cell? ⟨g, k, none⟩ = some (.int .u8 (y.toNat : Int)) := by
          rcases HBY.out with h | ⟨b, o, e, hb, hc⟩
          · rw [h] at htl; simp at htl
          · injection e with e
            injection e with e1 e2
            subst e1 e2
            have := hc k (by omega)
            rw [Nat.zero_add] at this
            rw [this, hy]
        have fy := HFZ.out k hkz
        obtain ⟨z, hz⟩ := xor_u8 y b' hb0 hb1
        have hb4 : Hid (ByAt (W3.setCell ⟨g, k, none⟩ (.int .u8 (z.toNat : Int))) W3.heap.size (some ⟨g, 0, none⟩) (ts.set k z)) := HBY.out.set k (by omega) z
        have h4 : Hid (Below w.heap.size w (W3.setCell ⟨g, k, none⟩ (.int .u8 (z.toNat : Int)))) := h3.setCell hgw _
        have hk1 : (k : Int) < (p : Int) + 2 := by omega
        have hs4 : (W3.setCell ⟨g, k, none⟩ (.int .u8 (z.toNat : Int))).heap.size = W3.heap.size := by simp [World.setCell]
        have hul : (ts.set k z).length = p + 2 := by rw [List.length_set]; exact htl
        clear hy hkz HFZ
        go_upto_region 10 with fail
        clear hz cy fy
        generalize (W3.setCell ⟨g, k, none⟩ (.int .u8 (z.toNat : Int))) = W4 at *
        obtain ⟨us, hus⟩ : ∃ us, us = ts.set k z := ⟨_, rfl⟩
        rw [← hus] at hb4 hul
        clear hus HBY htl
        have HU : Hid (∀ W, Below W4.heap.size W4 W → ByAt W W3.heap.size (some ⟨g, 0, none⟩) us) := fun W hW => hb4.out.below (hW.mono (by omega))
        have hcv : ∀ W, Below W4.heap.size W4 W → ((convert 22 9 (.slice (some ⟨g, 0, none⟩) (p + 2) C)).run Try.prog W = .ok (.string ⟨us.toArray⟩) W ∧ (convert 22 9 (.slice (some ⟨g, 0, none⟩) (p + 1) C)).run Try.prog W = .ok (.string ⟨(us.take (p + 1)).toArray⟩) W ∧ (convert 22 9 (.slice (some ⟨g, 0, none⟩) p C)).run Try.prog W = .ok (.string ⟨(us.take p).toArray⟩) W) := fun W hW => by
          have c0 := conv_bytes W _ (some ⟨g, 0, none⟩) us C (HU.out W hW)
          have c1 := conv_bytes W _ (some ⟨g, 0, none⟩) (us.take (p + 1)) C ((HU.out W hW).take _)
          have c2 := conv_bytes W _ (some ⟨g, 0, none⟩) (us.take p) C ((HU.out W hW).take _)
          rw [hul] at c0
          rw [List.length_take, hul, show min (p + 1) (p + 2) = p + 1 from by omega] at c1
          rw [List.length_take, hul, show min p (p + 2) = p from by omega] at c2
          exact ⟨c0, c1, c2⟩
        obtain ⟨t0, ht0⟩ : ∃ t : ByteArray, t = ⟨us.toArray⟩ := ⟨_, rfl⟩
        obtain ⟨t1, ht1⟩ : ∃ t : ByteArray, t = ⟨(us.take (p + 1)).toArray⟩ := ⟨_, rfl⟩
        obtain ⟨t2, ht2⟩ : ∃ t : ByteArray, t = ⟨(us.take p).toArray⟩ := ⟨_, rfl⟩
        have z0 : t0.size ≤ 1000 := by rw [ht0, ← size_list, ba_list, hul]; omega
        have z1 : t1.size ≤ 1000 := by rw [ht1, ← size_list, ba_list, List.length_take]; omega
        have z2 : t2.size ≤ 1000 := by rw [ht2, ← size_list, ba_list, List.length_take]; omega
        rw [← ht0, ← ht1, ← ht2] at hcv
        obtain ⟨q0, q1, q2⟩ := hcv W4 (Below.refl _ _)
        obtain ⟨r0, r1, r2⟩ := hcv W4.drew (Below.refl _ _).drew
        have p1 : p + 1 ≤ C := by omega
        have p2 : p ≤ C := by omega
        clear hcv ht0 ht1 ht2 hul hb4
        have h4 : Below w.heap.size w W4 := h4.out
        clear hs4
        go_region
        clear q0 q1 q2 r0 r1 r2 HU hb0 hb1
        go_wp2_with fail
        have hrow : Rw4 W4.heap.size s t0 t1 t2 (W4.alloc (.cells #[.string s, .string t0, .string t1, .string t2] 9)).drew := ⟨by simp [go_sem], by simp [go_sem], by simp [go_sem], by simp [go_sem]⟩
        have hb5 : Below w.heap.size w (W4.alloc (.cells #[.string s, .string t0, .string t1, .string t2] 9)).drew := (h4.alloc h4.size _).drew
        have hsz5 : W4.heap.size < (W4.alloc (.cells #[.string s, .string t0, .string t1, .string t2] 9)).drew.heap.size := by simp
        generalize (W4.alloc (.cells #[.string s, .string t0, .string t1, .string t2] 9)).drew = w5 at *
        generalize W4.heap.size = g5 at *
        clear h4
        rw [show p + 2 - 1 = p + 1 from rfl]
        go_loopw [12] (fun iv wr => ∃ i : Nat, iv = .int .i64 (i : Int) ∧ i ≤ 4 ∧ Below w5.heap.size w5 wr) (fun iv _ => 4 - (intOf iv).toNat)
        case atStart => exact ⟨0, rfl, by omega, Below.refl _ _⟩
        case round =>
          obtain ⟨i, rfl, hi4, hb⟩ := hrel
          have hsr := hb.size
          by_cases hp4 : i < 4
          · have hp' : (i : Int) < 4 := by omega
            obtain ⟨x, hx5, hcell⟩ := (hrow.below hsz5 hb).at 1000 (by omega) (by omega) (by omega) (by omega) i hp4
            have k1 := fun W => bdec_is x W (by omega) (dL x) (dN x) _ rfl rfl rfl
            have k2 := fun W => rbdec_any x W (by omega)
            unfold DecEnd at k2
            generalize dL x = dx at *
            generalize dN x = dn at *
            go_wp2_with fail
            refine (k1 _).mono ?_
            rintro e w6 ⟨X, cx, rfl, hx6, hxc6, h6⟩
            have c6 := (h6.cell (p := ⟨g5, i, none⟩) (by show g5 < _; omega)).trans hcell
            have bb6 := hb.trans (h6.mono hsr)
            have hs6 := h6.size
            clear hcell
            go_wp2_with fail
            refine (k2 _).mono ?_
            rintro e w7 ⟨Y, cy, rfl, hy7, hyc7, hym7, h7⟩
            have cX := conv_bytes w7 _ X dx cx (hx6.up h7)
            have cY := conv_bytes w7 _ Y dx cy hy7
            have bb7 := bb6.trans (h7.mono (by omega))
            clear c6 hx6 hy7 k1 k2 h6 h7
            generalize (⟨dx.toArray⟩ : ByteArray) = dxs at *
            go_wp2_with fail
            go_roundw
            case rel => exact ⟨i + 1, by simp, by omega, bb7⟩
            case measure =>
              simp [intOf]
              omega
          · have hp' : ¬ (i : Int) < 4 := by omega
            have h9 : Below w.heap.size w wr := hb5.trans (hb.mono hb5.size)
            have k1 := fun W (hW : Below w.heap.size w W) => benc_is A xs ca W (HX.out.up hW) hxc (by omega) _ rfl st HST.out.symm
            have k2 := fun W (hW : Below w.heap.size w W) => rbenc_any A xs ca W (HX.out.up hW) hxc (by omega)
            rw [← HST.out] at k2
            go_wp2_with fail
            refine (k1 _ h9).mono ?_
            rintro e w6 ⟨rfl, h6⟩
            have h10 := below_tr8 h9 h6
            clear k1
            go_wp2_with fail
            refine (k2 _ h10).mono ?_
            rintro e w7 ⟨rfl, h7⟩
            clear k2
            go_wp2_with fail
            go_ret
            exact ⟨rfl, below_tr8 h10 h7⟩
    · have hs' : (s.size : Int) > 400 := by omega
      go_wp2_with fail
      go_ret
      exact ⟨rfl, h1⟩
  · have ha' : (xs.length : Int) > 400 := by omega
    go_wp2_with fail
    go_ret
    exact ⟨rfl, h1⟩

end Go.Proofs.Ytffhbgakoibgnaa
