import Derived.Test.YtffhbgakoibgnaaF7
namespace Go.Proofs.Ytffhbgakoibgnaa
open Go.RowKit
set_option linter.unusedVariables false
set_option linter.unusedSimpArgs false

def REnc8 (w : World) (xs : List UInt8) (ov iv : Value) (wr : World) : Prop :=
  ∃ i : Nat, iv = .int .i64 (i : Int) ∧ i % 3 = 0 ∧ i ≤ xs.length + 2 ∧ OwnB wr w.heap.size ov (b64L (xs.take i)) ∧ Below w.heap.size w wr

set_option maxRecDepth 100000 in
set_option maxHeartbeats 1000000 in
theorem rbenc_any (A : Option Addr) (xs : List UInt8) (cap : Nat) (w : World) (hx : ByAt w w.heap.size A xs) (hc : xs.length ≤ cap) (hm : xs.length ≤ 1000000) :
    Calls Try.prog 7 #[.slice A xs.length cap] w fun e w' => e = .returned (.string (b64S xs)) ∧ Below w.heap.size w w' := by
  obtain ⟨i5, hi, hz0, hz1, hz2⟩ := info_has Try.infoByte
  go_enter Try.func7, Try.ntmps7
  go_wp2_with fail
  go_loopw [3, 4] (fun ov iv wr => REnc8 w xs ov iv wr) (fun _ iv _ => xs.length + 3 - (intOf iv).toNat)
  case atStart => exact ⟨0, rfl, rfl, by omega, OwnB.nil _ _, Below.refl _ _⟩
  case round =>
    obtain ⟨i, rfl, h3, hil, hown, hb⟩ := hrel
    by_cases hp : i < xs.length
    · have hp' : (i : Int) < (xs.length : Int) := by omega
      obtain ⟨bb, oo, rfl, hbb, hcc⟩ : ∃ b' o, A = some ⟨b', o, none⟩ ∧ b' < w.heap.size ∧ ∀ i, i < xs.length → w.cell? ⟨b', o + i, none⟩ = some (.int .u8 ((xs.getD i 0).toNat : Int)) := by
        rcases hx with h | h
        · rw [h] at hp; simp at hp
        · exact h
      have hcr : ∀ i, i < xs.length → wr.cell? ⟨bb, oo + i, none⟩ = some (.int .u8 ((xs.getD i 0).toNat : Int)) := fun i hi => (hb.cell (by simpa using hbb)).trans (hcc i hi)
      have HC : Hid (∀ i, i < xs.length → wr.cell? ⟨bb, oo + i, none⟩ = some (.int .u8 ((xs.getD i 0).toNat : Int))) := hcr
      have HO : Hid (OwnB wr w.heap.size u3 (b64L (xs.take i))) := hown
      clear hcr hcc hown hx
      go_wp2_with fail
      go_loopw [5, 6, 7] (fun vv nv kv wx => ∃ k : Nat, kv = .int .i64 (k : Int) ∧ k ≤ 3 ∧ vv = .int .i64 (vU (xs.drop i) k : Int) ∧ nv = .int .i64 (min k (xs.length - i) : Nat) ∧ wx = wr) (fun _ _ kv _ => 3 - (intOf kv).toNat)
      case atStart => exact ⟨0, rfl, by omega, rfl, by simp, rfl⟩
      case round =>
        obtain ⟨k, rfl, hk, rfl, rfl, rfl⟩ := hrel
        by_cases hk3 : k < 3
        · have hk3' : (k : Int) < 3 := by omega
          have hvl : vU (xs.drop i) k < 65536 := Nat.lt_of_lt_of_le (vU_lt _ k) (by rcases (show k = 0 ∨ k = 1 ∨ k = 2 by omega) with rfl | rfl | rfl <;> decide)
          have hvn : vU (xs.drop i) (k + 1) = vU (xs.drop i) k * 256 + ((xs.drop i).getD k 0).toNat := rfl
          have hdk : (xs.drop i).getD k 0 = xs.getD (i + k) 0 := by simp [List.getD]
          rw [hdk] at hvn
          have Hvn : Hid (vU (xs.drop i) (k + 1) = vU (xs.drop i) k * 256 + (xs.getD (i + k) 0).toNat) := hvn
          clear hvn hdk
          by_cases hik : i + k < xs.length
          · have hik' : (i : Int) + (k : Int) < (xs.length : Int) := by omega
            have hcell := HC.out (i + k) hik
            obtain ⟨y, hy⟩ : ∃ y, y = xs.getD (i + k) 0 := ⟨_, rfl⟩
            rw [← hy] at hcell
            have HY : Hid (y = xs.getD (i + k) 0) := hy
            have hyl := y.toNat_lt
            clear hy
            obtain ⟨v, hv⟩ : ∃ v, v = vU (xs.drop i) k := ⟨_, rfl⟩
            rw [← hv] at hvl ⊢
            have HV : Hid (v = vU (xs.drop i) k) := hv
            clear hv
            obtain ⟨n, hn⟩ : ∃ n, n = min k (xs.length - i) := ⟨_, rfl⟩
            rw [← hn]
            have HN : Hid (n = min k (xs.length - i)) := hn
            have hnk : n = k := by omega
            clear hn
            subst hnk
            go_wp2_with fail
            go_roundw
            case rel =>
              have h1 := HN.out
              refine ⟨n + 1, by simp, by omega, ?_, ?_, trivial⟩
              · rw [Hvn.out, ← HV.out, ← HY.out]; simp
              · rw [show min (n + 1) (xs.length - i) = n + 1 from by omega]; simp
            case measure =>
              simp [intOf]
              omega
          · have hik' : ¬ (i : Int) + (k : Int) < (xs.length : Int) := by omega
            obtain ⟨v, hv⟩ : ∃ v, v = vU (xs.drop i) k := ⟨_, rfl⟩
            rw [← hv] at hvl ⊢
            have HV : Hid (v = vU (xs.drop i) k) := hv
            clear hv
            obtain ⟨n, hn⟩ : ∃ n, n = min k (xs.length - i) := ⟨_, rfl⟩
            rw [← hn]
            have HN : Hid (n = min k (xs.length - i)) := hn
            clear hn
            go_wp2_with fail
            go_roundw
            case rel =>
              have h1 := HN.out
              refine ⟨k + 1, by simp, by omega, ?_, ?_, trivial⟩
              · rw [Hvn.out, ← HV.out]; simp [List.getD, List.getElem?_eq_none (show xs.length ≤ i + k by omega)]
              · rw [show min (k + 1) (xs.length - i) = n from by omega]
            case measure =>
              simp [intOf]
              omega
        · have hk3' : ¬ (k : Int) < 3 := by omega
          have hk3e : k = 3 := by omega
          have hv3 : vU (xs.drop i) 3 < 16777216 := vU_lt _ 3
          have hgi := grp_idx (xs.drop i)
          have hst := b64_step xs i hp h3
          have hdl : (xs.drop i).length = xs.length - i := List.length_drop
          unfold grp at hst
          rw [hdl] at hst
          obtain ⟨fr, hfr⟩ : ∃ fr, fr = four ((xs.drop i).getD 0 0).toNat ((xs.drop i).getD 1 0).toNat ((xs.drop i).getD 2 0).toNat := ⟨_, rfl⟩
          have hfl : fr.length = 4 := by rw [hfr]; rfl
          rw [← hfr] at hgi hst
          obtain ⟨v, hv⟩ : ∃ v, v = vU (xs.drop i) 3 := ⟨_, rfl⟩
          obtain ⟨n, hn⟩ : ∃ n, n = min 3 (xs.length - i) := ⟨_, rfl⟩
          rw [show vU (xs.drop i) k = v from by rw [hk3e, hv], show min k (xs.length - i) = n from by rw [hk3e, hn]]
          rw [← hv] at hv3 hgi
          rw [← hn] at hst
          have hn3 : n ≤ 3 := by omega
          have hLl : (b64L (xs.take i)).length ≤ 1400000 := by rw [b64_len, List.length_take]; omega
          obtain ⟨L, hL⟩ : ∃ L, L = b64L (xs.take i) := ⟨_, rfl⟩
          rw [← hL] at hst hLl
          have HO2 : Hid (OwnB wr w.heap.size u3 L) := by show OwnB _ _ _ _; rw [hL]; exact HO.out
          have Hst : Hid (b64L (xs.take (i + 3)) = L ++ fr.take (n + 1)) := hst
          have Hgi : Hid (∀ k, k ≤ 3 → sg (v / 2 ^ (18 - 6 * k) % 64) = fr.getD k 0) := hgi
          clear HC HO hL hn hv hfr hdl hst hgi hk3 hk3e hk
          generalize (k : Int) = k3 at *
          go_wp2_with fail
          clear hk3'
          go_loopw [3, 8] (fun ov kv wx => ∃ k : Nat, kv = .int .i64 (k : Int) ∧ k ≤ n + 1 ∧ OwnB wx w.heap.size ov (L ++ fr.take k) ∧ Below w.heap.size w wx) (fun _ kv _ => 5 - (intOf kv).toNat)
          case atStart => exact ⟨0, rfl, by omega, by simpa using HO2.out, hb⟩
          case round =>
            obtain ⟨k, rfl, hk, hown, hbx⟩ := hrel
            have hsx := hbx.size
            by_cases hkn : k ≤ n
            · have hkn' : (k : Int) ≤ (n : Int) := by omega
              have HO3 : Hid (OwnB wr w.heap.size u3 (L ++ fr.take k)) := hown
              have hgk := Hgi.out k (by omega)
              have hfk : fr.take (k + 1) = fr.take k ++ [fr.getD k 0] := by
                rw [List.take_succ_eq_append_getElem (by omega)]; simp [List.getD, List.getElem?_eq_getElem (show k < fr.length by omega)]
              have hll : (L ++ fr.take k).length ≤ 1400004 := by rw [List.length_append, List.length_take]; omega
              obtain ⟨M, hM⟩ : ∃ M, M = L ++ fr.take k := ⟨_, rfl⟩
              have HM : Hid (L ++ fr.take (k + 1) = M ++ [fr.getD k 0]) := by show _ = _; rw [hfk, hM, List.append_assoc]
              rw [← hM] at hown hll
              have HO4 : Hid (OwnB wr w.heap.size u3 M) := hown
              clear hown hM hfk HO3 HO2
              obtain ⟨x, hx⟩ : ∃ x, x = (sg (v / 2 ^ (18 - 6 * k) % 64)).toNat := ⟨_, rfl⟩
              have hix := fun W => sg_index (v / 2 ^ (18 - 6 * k) % 64) (Nat.mod_lt _ (by decide)) x hx W
              have HXk : Hid (x = (fr.getD k 0).toNat) := by show _ = _; rw [hx, hgk]
              clear hx hgk
              rcases (show k = 0 ∨ k = 1 ∨ k = 2 ∨ k = 3 by omega) with rfl | rfl | rfl | rfl
              · have q0 : bits .and .i64 ((v : Int) / 262144) 63 = ((v / 262144 % 64 : Nat) : Int) := by
                  first | (rw [show (v : Int) / 262144 = ((v / 262144 : Nat) : Int) from by omega]; exact and63 _ (by omega)) | (rw [Nat.div_one]; exact and63 _ (by omega))
                rw [show (2 : Nat) ^ (18 - 6 * 0) = 262144 from rfl] at hix
                obtain ⟨j, hj⟩ : ∃ j, j = v / 262144 % 64 := ⟨_, rfl⟩
                rw [← hj] at q0 hix
                clear hj
                go_wp2_with (at_builtin; refine wpList_append_any _ rfl _ _ 22 rfl w.heap.size 5 i5 (.int .u8 0) 1 1 Try.underlying22 hi hz0 hz1 hz2 rfl (by decide) u3 M.length (Lib.byteCells M) rfl (HO4.out.alloc _) (some ⟨wr.heap.size, 0, none⟩) 1 1 [.int .u8 (x : Int)] rfl (.inr ⟨_, rfl, rfl, World.news_of_block (t := 5) (fr := (0, 0)) (heap_alloc_new wr _), by simp [Value.oneCell']⟩) (by unfold maxLen; omega) (by omega) (by simp; omega) ?_)
                intro v6 w6 hown6 hgrow6 hat6
                have hb6 : Below w.heap.size w w6 := hbx.trans (below_end HO4.out hgrow6 hat6 hsx)
                have O6 : Hid (OwnB w6 w.heap.size v6 (L ++ fr.take (0 + 1))) := by
                  show OwnB _ _ _ _
                  rw [HM.out]
                  exact append_end hown6 (by rw [HXk.out]; rfl) rfl
                clear hown6 hgrow6 hat6 HO4
                go_wp2_with fail
                go_roundw
                case rel => exact ⟨0 + 1, by simp, by omega, O6.out, hb6⟩
                case measure =>
                  simp [intOf]
              · have q0 : bits .and .i64 ((v : Int) / 4096) 63 = ((v / 4096 % 64 : Nat) : Int) := by
                  first | (rw [show (v : Int) / 4096 = ((v / 4096 : Nat) : Int) from by omega]; exact and63 _ (by omega)) | (rw [Nat.div_one]; exact and63 _ (by omega))
                rw [show (2 : Nat) ^ (18 - 6 * 1) = 4096 from rfl] at hix
                obtain ⟨j, hj⟩ : ∃ j, j = v / 4096 % 64 := ⟨_, rfl⟩
                rw [← hj] at q0 hix
                clear hj
                go_wp2_with (at_builtin; refine wpList_append_any _ rfl _ _ 22 rfl w.heap.size 5 i5 (.int .u8 0) 1 1 Try.underlying22 hi hz0 hz1 hz2 rfl (by decide) u3 M.length (Lib.byteCells M) rfl (HO4.out.alloc _) (some ⟨wr.heap.size, 0, none⟩) 1 1 [.int .u8 (x : Int)] rfl (.inr ⟨_, rfl, rfl, World.news_of_block (t := 5) (fr := (0, 0)) (heap_alloc_new wr _), by simp [Value.oneCell']⟩) (by unfold maxLen; omega) (by omega) (by simp; omega) ?_)
                intro v6 w6 hown6 hgrow6 hat6
                have hb6 : Below w.heap.size w w6 := hbx.trans (below_end HO4.out hgrow6 hat6 hsx)
                have O6 : Hid (OwnB w6 w.heap.size v6 (L ++ fr.take (1 + 1))) := by
                  show OwnB _ _ _ _
                  rw [HM.out]
                  exact append_end hown6 (by rw [HXk.out]; rfl) rfl
                clear hown6 hgrow6 hat6 HO4
                go_wp2_with fail
                go_roundw
                case rel => exact ⟨1 + 1, by simp, by omega, O6.out, hb6⟩
                case measure =>
                  simp [intOf]
              · have q0 : bits .and .i64 ((v : Int) / 64) 63 = ((v / 64 % 64 : Nat) : Int) := by
                  first | (rw [show (v : Int) / 64 = ((v / 64 : Nat) : Int) from by omega]; exact and63 _ (by omega)) | (rw [Nat.div_one]; exact and63 _ (by omega))
                rw [show (2 : Nat) ^ (18 - 6 * 2) = 64 from rfl] at hix
                obtain ⟨j, hj⟩ : ∃ j, j = v / 64 % 64 := ⟨_, rfl⟩
                rw [← hj] at q0 hix
                clear hj
                go_wp2_with (at_builtin; refine wpList_append_any _ rfl _ _ 22 rfl w.heap.size 5 i5 (.int .u8 0) 1 1 Try.underlying22 hi hz0 hz1 hz2 rfl (by decide) u3 M.length (Lib.byteCells M) rfl (HO4.out.alloc _) (some ⟨wr.heap.size, 0, none⟩) 1 1 [.int .u8 (x : Int)] rfl (.inr ⟨_, rfl, rfl, World.news_of_block (t := 5) (fr := (0, 0)) (heap_alloc_new wr _), by simp [Value.oneCell']⟩) (by unfold maxLen; omega) (by omega) (by simp; omega) ?_)
                intro v6 w6 hown6 hgrow6 hat6
                have hb6 : Below w.heap.size w w6 := hbx.trans (below_end HO4.out hgrow6 hat6 hsx)
                have O6 : Hid (OwnB w6 w.heap.size v6 (L ++ fr.take (2 + 1))) := by
                  show OwnB _ _ _ _
                  rw [HM.out]
                  exact append_end hown6 (by rw [HXk.out]; rfl) rfl
                clear hown6 hgrow6 hat6 HO4
                go_wp2_with fail
                go_roundw
                case rel => exact ⟨2 + 1, by simp, by omega, O6.out, hb6⟩
                case measure =>
                  simp [intOf]
              · have q0 : bits .and .i64 ((v : Int)) 63 = ((v / 1 % 64 : Nat) : Int) := by
                  first | (rw [show (v : Int) = ((v / 1 : Nat) : Int) from by omega]; exact and63 _ (by omega)) | (rw [Nat.div_one]; exact and63 _ (by omega))
                rw [show (2 : Nat) ^ (18 - 6 * 3) = 1 from rfl] at hix
                obtain ⟨j, hj⟩ : ∃ j, j = v / 1 % 64 := ⟨_, rfl⟩
                rw [← hj] at q0 hix
                clear hj
                go_wp2_with (at_builtin; refine wpList_append_any _ rfl _ _ 22 rfl w.heap.size 5 i5 (.int .u8 0) 1 1 Try.underlying22 hi hz0 hz1 hz2 rfl (by decide) u3 M.length (Lib.byteCells M) rfl (HO4.out.alloc _) (some ⟨wr.heap.size, 0, none⟩) 1 1 [.int .u8 (x : Int)] rfl (.inr ⟨_, rfl, rfl, World.news_of_block (t := 5) (fr := (0, 0)) (heap_alloc_new wr _), by simp [Value.oneCell']⟩) (by unfold maxLen; omega) (by omega) (by simp; omega) ?_)
                intro v6 w6 hown6 hgrow6 hat6
                have hb6 : Below w.heap.size w w6 := hbx.trans (below_end HO4.out hgrow6 hat6 hsx)
                have O6 : Hid (OwnB w6 w.heap.size v6 (L ++ fr.take (3 + 1))) := by
                  show OwnB _ _ _ _
                  rw [HM.out]
                  exact append_end hown6 (by rw [HXk.out]; rfl) rfl
                clear hown6 hgrow6 hat6 HO4
                go_wp2_with fail
                go_roundw
                case rel => exact ⟨3 + 1, by simp, by omega, O6.out, hb6⟩
                case measure =>
                  simp [intOf]
            · have hkn' : ¬ (k : Int) ≤ (n : Int) := by omega
              obtain rfl : k = n + 1 := by omega
              have HO3 : Hid (OwnB wr w.heap.size u3 (b64L (xs.take (i + 3)))) := by show OwnB _ _ _ _; rw [Hst.out]; exact hown
              clear hown
              go_wp2_with fail
              go_roundw
              case rel => exact ⟨i + 3, by simp, by omega, by omega, HO3.out, hbx⟩
              case measure =>
                simp [intOf]
                omega
    · have hp' : ¬ (i : Int) < (xs.length : Int) := by omega
      have hcv := conv_own hown
      rw [List.take_of_length_le (by omega)] at hcv
      have HO : Hid (OwnB wr w.heap.size u3 (b64L (xs.take i))) := hown
      clear hown
      go_wp2_with fail
      go_ret
      exact ⟨rfl, hb⟩

end Go.Proofs.Ytffhbgakoibgnaa
