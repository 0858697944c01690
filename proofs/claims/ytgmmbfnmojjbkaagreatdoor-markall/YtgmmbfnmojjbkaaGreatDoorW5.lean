import Derived.Test.YtgmmbfnmojjbkaaGreatDoorW4
import Derived.Deep.RegionHeld3
namespace Go.Proofs.YtgmmbfnmojjbkaaGreatDoor
open Go.RowKit
set_option linter.unusedVariables false
set_option linter.unusedSimpArgs false

theorem fit_kind (k : Int) (h : 0 ≤ k ∧ k ≤ 100) : Nd.Fit ⟨k, 0, ByteArray.empty⟩ := ⟨by simp; omega, by simp; omega, by simp, by simp, empty_small⟩

set_option maxRecDepth 100000 in
set_option maxHeartbeats 4000000 in
theorem term_succ (ns : List Int) (d : Nat) (hd : d ≤ 100) (ih : TermOk ns d) : TermOk ns (d + 1) := by
  intro w tb B LA cap k ht hB hns hf hk
  go_enter Tryz.func27, Tryz.ntmps27
  go_wp2_with fail
  have t0 := ht.1
  refine (next_any _ tb B LA ns cap k 10 (ht.only (Below.alloc (Below.refl _ _) (Nat.le_refl _) _)) hB (hns.only (Only.alloc (Only.refl _ _) _) hB t0) hf (by omega) (by omega) hk).mono ?_
  rintro e w1 ⟨rfl, ho, ht1⟩
  have l1 := nextV_lo ns k 10
  have l2 := nextV_hi ns k 10 (by omega)
  generalize hx0 : nextV ns k 10 = x at *
  have hx : Hid (nextV ns k 10 = x) := hx0
  generalize hk0 : nextK ns k 10 = k1 at *
  have hk1 : Hid (nextK ns k 10 = k1) := hk0
  have hk2 : k1 ≤ ns.length := by rw [← hk0]; exact nextK_le _ _ _ hk
  clear hx0 hk0
  go_wp2_with fail
  · refine (pick9 _ tb B LA ns cap k1 w1.heap.size 9 (ht1.only (Below.alloc (Below.refl _ _) (Nat.le_refl _) _)) hB ?hn hf hk2 (by have := ho.size; simp at this; omega) (by simp) ?hs).mono ?_
    case hn => exact (hns.only ((Only.alloc (Only.refl _ _) _).trans (Only.alloc ho _)) hB t0)
    case hs => intro i hi; simp [go_sem]; exact tapeStrs_at i hi
    rintro e w2 ⟨rfl, ho2, ht2⟩
    have hsz : (tapeStrs.getD (nextV ns k1 9).toNat ByteArray.empty).size ≤ maxLen := tapeStrs_small _
    generalize hs0 : tapeStrs.getD (nextV ns k1 9).toNat ByteArray.empty = sx at *
    have Hs : Hid (tapeStrs.getD (nextV ns k1 9).toNat ByteArray.empty = sx) := hs0
    clear hs0
    go_wp2_with fail
    refine (refA_any _ _).mono ?_
    rintro e w3 ⟨rfl, ho3⟩
    have hO : Only tb (w.alloc (.cells #[.int .i64 0, .int .i64 0, .string ⟨#[]⟩, .slice none 0 0] 24)) w3 := ((Only.alloc ho _).trans ho2).below ho3
    obtain ⟨r0, r1, r2, r3, f0, f1, f2, f3⟩ := res4 hO t0
    have ht3 := ht2.only ho3
    go_wp2_with fail
    refine bodyPost_ret (v := .agg #[.int .i64 1, .int .i64 0, .string sx, .slice none 0 0]) (by simp [results, Tryz.results27, go_sem, r0, r1, r2, r3]) rfl ⟨_, rfl, ?_, ?_, ?_⟩
    · exact Only.set4 ((Only.alloc (Only.refl _ _) _).trans hO) (Nat.le_refl _) _ _ _ _
    · rw [tapeT, hx.out, hk1.out, if_pos (by omega)]; exact ht3.set4 (by omega) _ _ _ _
    · rw [tapeT, hx.out, hk1.out, if_pos (by omega), Hs.out]; exact ⟨fit_atom _ hsz, none, 0, 0, 0, rfl, ⟨Nat.zero_le _, Nat.zero_le _⟩, .inl rfl, trivial⟩
  · refine (next_any _ tb B LA ns cap k1 8 (ht1.only (Below.alloc (Below.refl _ _) (Nat.le_refl _) _)) hB ?hn hf (by omega) (by omega) hk2).mono ?_
    case hn => exact (hns.only ((Only.alloc (Only.refl _ _) _).trans (Only.alloc ho _)) hB t0)
    rintro e w2 ⟨rfl, ho2, ht2⟩
    have y1 := nextV_lo ns k1 8
    have y2 := nextV_hi ns k1 8 (by omega)
    have hsz := tapeNums_small (nextV ns k1 8).toNat
    have hcl : w2.cell? ⟨w1.heap.size, (nextV ns k1 8).toNat, none⟩ = some (.int .i64 (tapeNums.getD (nextV ns k1 8).toNat 0)) := by
      rw [ho2.cell (by simp) (by have := ho.size; simp at this ⊢; omega)]; simp [go_sem]; exact tapeNums_at _ (by omega)
    generalize hz0 : tapeNums.getD (nextV ns k1 8).toNat 0 = z at *
    have Hz : Hid (tapeNums.getD (nextV ns k1 8).toNat 0 = z) := hz0
    clear hz0
    generalize hy0 : nextV ns k1 8 = y at *
    have Hy : Hid (nextV ns k1 8 = y) := hy0
    clear hy0
    go_wp2_with fail
    refine (refN_any _ _).mono ?_
    rintro e w3 ⟨rfl, ho3⟩
    have hO : Only tb (w.alloc (.cells #[.int .i64 0, .int .i64 0, .string ⟨#[]⟩, .slice none 0 0] 24)) w3 := ((Only.alloc ho _).trans ho2).below ho3
    obtain ⟨r0, r1, r2, r3, f0, f1, f2, f3⟩ := res4 hO t0
    have ht3 := ht2.only ho3
    go_wp2_with fail
    refine bodyPost_ret (v := .agg #[.int .i64 2, .int .i64 z, .string ByteArray.empty, .slice none 0 0]) (by simp [results, Tryz.results27, go_sem, r0, r1, r2, r3]) rfl ⟨_, rfl, ?_, ?_, ?_⟩
    · exact Only.set4 ((Only.alloc (Only.refl _ _) _).trans hO) (Nat.le_refl _) _ _ _ _
    · rw [tapeT, hx.out, hk1.out, if_neg (by omega), if_pos (by omega)]; exact ht3.set4 (by omega) _ _ _ _
    · rw [tapeT, hx.out, hk1.out, if_neg (by omega), if_pos (by omega), Hy.out, Hz.out]; exact ⟨fit_nonce _ hsz, none, 0, 0, 0, rfl, ⟨Nat.zero_le _, Nat.zero_le _⟩, .inl rfl, trivial⟩
  · have hns1 : NumsAt w1 B ns LA := hns.only ((Only.alloc (Only.refl _ _) _).trans ho) hB t0
    have hsz1 : w.heap.size < w1.heap.size := by have := ho.size; simp at this; omega
    refine (ih w1 tb B LA cap k1 ht1 hB hns1 hf hk2).mono ?_
    generalize hT0 : tapeT ns d k1 = T
    have hT : Hid (tapeT ns d k1 = T) := hT0
    clear hT0
    obtain ⟨⟨a1, l1⟩, k3⟩ := T
    rintro e w2 ⟨v, rfl, ho2, ht2, hfa, A1, cap1, b1, o1, rfl, hn1, hA1, hl1⟩
    have HA1 : Hid (flen l1 = 0 ∨ A1 = some ⟨b1, o1, none⟩) := hA1
    clear hA1
    go_wp2_with fail
    refine (refT_any _ _ _ _ _).mono ?_
    rintro e w3 ⟨rfl, ho3⟩
    have hO : Only tb (w.alloc (.cells #[.int .i64 0, .int .i64 0, .string ⟨#[]⟩, .slice none 0 0] 24)) w3 := (Only.alloc (ho.trans ho2) _).below ho3
    obtain ⟨r0, r1, r2, r3, f0, f1, f2, f3⟩ := res4 hO t0
    have ht3 := (ht2.only (Below.alloc (Below.refl _ _) (Nat.le_refl _) _)).only ho3
    go_wp2_with fail
    refine bodyPost_ret (v := .agg #[.int .i64 (3 + x - 5), .int .i64 0, .string ByteArray.empty, .slice (some ⟨w2.heap.size, 0, none⟩) 1 1]) (by simp [results, Tryz.results27, go_sem, r0, r1, r2, r3]) rfl ⟨_, rfl, ?_, ?_, ?_⟩
    · exact Only.set4 ((Only.alloc (Only.refl _ _) _).trans hO) (Nat.le_refl _) _ _ _ _
    · rw [tapeT, hx.out, hk1.out, if_neg (by omega), if_neg (by omega), if_pos (by omega), hT.out]; exact ht3.set4 (by omega) _ _ _ _
    · rw [tapeT, hx.out, hk1.out, if_neg (by omega), if_neg (by omega), if_pos (by omega), hT.out]
      have hs2 := ho2.size
      have hs3 := ho3.size
      simp only [World.heap_size_alloc'] at hs3
      refine ⟨fit_kind _ (by omega), some ⟨w2.heap.size, 0, none⟩, 1, w2.heap.size, 0, rfl, by simp [flen], .inr rfl, ?_⟩
      have hc : ∀ o, ((((w3.setCell ⟨w.heap.size, 0, none⟩ (.int .i64 (3 + x - 5))).setCell ⟨w.heap.size, 1, none⟩ (.int .i64 0)).setCell ⟨w.heap.size, 2, none⟩ (.string ByteArray.empty)).setCell ⟨w.heap.size, 3, none⟩
          (.slice (some ⟨w2.heap.size, 0, none⟩) 1 1)).cell? ⟨w2.heap.size, o, none⟩ = (#[Value.int .i64 a1.kind, .int .i64 a1.n, .string a1.s, .slice A1 (flen l1) cap1] : Array Value)[o]? := fun o => by
        rw [cell_set4 _ _ _ _ _ _ _ _ (by omega), ho3.cell (by simp)]; simp [go_sem]
      refine ⟨⟨by omega, by rw [size_set4]; omega⟩, hfa, by rw [hc]; rfl, by rw [hc]; rfl, by rw [hc]; rfl, ⟨A1, cap1, b1, o1, by rw [hc]; rfl, hn1, HA1.out, ?_⟩, trivial⟩
      refine RepG.keep (fun b hb => ⟨by omega, by rw [size_set4]; omega⟩) (fun b o hb => ?_) hl1
      rw [cell_set4 _ _ _ _ _ _ _ _ (by omega), ho3.cell (by simp; omega)]
      exact World.cell?_alloc_past _ _ _ (by omega)
  · have hns1 : NumsAt w1 B ns LA := hns.only ((Only.alloc (Only.refl _ _) _).trans ho) hB t0
    have hsz1 : w.heap.size < w1.heap.size := by have := ho.size; simp at this; omega
    refine (ih w1 tb B LA cap k1 ht1 hB hns1 hf hk2).mono ?_
    have hk3 := tapeT_le ns d k1 hk2
    generalize hT0 : tapeT ns d k1 = T at *
    have hT : Hid (tapeT ns d k1 = T) := hT0
    clear hT0
    obtain ⟨⟨a1, l1⟩, k3⟩ := T
    rintro e w2 ⟨v, rfl, ho2, ht2, hfa, A1, cap1, b1, o1, rfl, hn1, hA1, hl1⟩
    have HA1 : Hid (flen l1 = 0 ∨ A1 = some ⟨b1, o1, none⟩) := hA1
    clear hA1
    have hsz2 := ho2.size
    have e1 : IntKind.i64.wrap (d : Int) = (d : Int) := wrap_in _ (by omega) (by omega)
    have e2 : IntKind.i64.wrap (5 + x) = 5 + x := wrap_in _ (by omega) (by omega)
    have e3 : IntKind.i64.wrap (5 + x - 7) = 5 + x - 7 := wrap_in _ (by omega) (by omega)
    go_wp2_with fail
    go_region_held3 (fun w' => Box4 w' w2.heap.size (.int .i64 a1.kind) (.int .i64 a1.n) (.string a1.s) (.slice A1 (flen l1) cap1))
      (first | exact (Box4.new _ _ _ _ _ _).drew | exact Box4.only (by assumption) (by assumption) (by omega) | exact Box4.below (by assumption) (by assumption) | exact Box4.alloc (by assumption) _ | (refine Box4.set (Box4.set (Box4.set (Box4.set ?_ ?_ _ _) ?_ _ _) ?_ _ _) ?_ _ _ <;> first | assumption | omega))
      (first
        | (go_at_call 27; refine (ih _ tb B LA cap k3 ?_ hB ?_ hf hk3).mono ?_; exact (ht2.only (by repeat (first | exact Below.refl _ _ | assumption | refine below_drewN ?_ _ | refine Below.drew ?_ | refine Below.alloc ?_ (by simp <;> omega) _ | refine Below.setCell ?_ (by simp <;> omega) _))); exact (hns1.only (Only.drew (Only.alloc ho2 _)) hB (by omega)); rintro e w3 ⟨v, rfl, ho3, ht3, hfb, A2, cap2, b2, o2, rfl, hn2, hA2, hl2⟩)
        | (go_at_call 43; refine (refT_any _ _ _ _ _).mono ?_; rintro e w4 ⟨rfl, ho4⟩; obtain ⟨r0, r1, r2, r3, f0, f1, f2, f3⟩ := res4 (Only.below (Only.alloc (Only.trans (Only.drew (Only.alloc (ho.trans ho2) _)) ho3) _) ho4) t0))
    go_wp2_with fail
    have hs3 := ho3.size
    have hs4 := ho4.size
    simp only [World.heap_size_alloc', World.heap_size_drew'] at hs3 hs4
    have hO := Only.below (Only.alloc (Only.trans (Only.drew (Only.alloc (ho.trans ho2) (.cells #[.int .i64 a1.kind, .int .i64 a1.n, .string a1.s, .slice A1 (flen l1) cap1] 24))) ho3) _) ho4
    have ht4 := (ht3.only (Below.alloc (Below.refl _ _) (Nat.le_refl _) _)).only ho4
    refine bodyPost_ret (v := .agg #[.int .i64 (5 + x - 7), .int .i64 0, .string ByteArray.empty, .slice (some ⟨w3.heap.size, 0, none⟩) 2 2]) (by simp [results, Tryz.results27, go_sem, r0, r1, r2, r3]) rfl ⟨_, rfl, ?_, ?_, ?_⟩
    · exact Only.set4 ((Only.alloc (Only.refl _ _) _).trans hO) (Nat.le_refl _) _ _ _ _
    · rw [tapeT, hx.out, hk1.out, if_neg (by omega), if_neg (by omega), if_neg (by omega), hT.out]; exact ht4.set4 (by omega) _ _ _ _
    · rw [tapeT, hx.out, hk1.out, if_neg (by omega), if_neg (by omega), if_neg (by omega), hT.out]
      refine ⟨fit_kind _ (by omega), some ⟨w3.heap.size, 0, none⟩, 2, w3.heap.size, 0, rfl, by simp [flen], .inr rfl, ?_⟩
      have hc : ∀ o, ((((w4.setCell ⟨w.heap.size, 0, none⟩ (.int .i64 (5 + x - 7))).setCell ⟨w.heap.size, 1, none⟩ (.int .i64 0)).setCell ⟨w.heap.size, 2, none⟩ (.string ByteArray.empty)).setCell ⟨w.heap.size, 3, none⟩
          (.slice (some ⟨w3.heap.size, 0, none⟩) 2 2)).cell? ⟨w3.heap.size, o, none⟩ = (#[Value.int .i64 a1.kind, .int .i64 a1.n, .string a1.s, .slice A1 (flen l1) cap1, .int .i64 (tapeT ns d k3).1.1.kind, .int .i64 (tapeT ns d k3).1.1.n, .string (tapeT ns d k3).1.1.s, .slice A2 (flen (tapeT ns d k3).1.2) cap2] : Array Value)[o]? := fun o => by
        rw [cell_set4 _ _ _ _ _ _ _ _ (by omega), ho4.cell (by simp)]; simp [go_sem]
      refine ⟨⟨by omega, by rw [size_set4]; omega⟩, hfa, by rw [hc]; rfl, by rw [hc]; rfl, by rw [hc]; rfl, ⟨A1, cap1, b1, o1, by rw [hc]; rfl, hn1, HA1.out, ?_⟩,
        ⟨⟨by omega, by rw [size_set4]; omega⟩, hfb, by rw [hc]; rfl, by rw [hc]; rfl, by rw [hc]; rfl, ⟨A2, cap2, b2, o2, by rw [hc]; rfl, hn2, hA2, ?_⟩, trivial⟩⟩
      · refine RepG.keep (fun b hb => ⟨by omega, by rw [size_set4]; omega⟩) (fun b o hb => ?_) hl1
        rw [cell_set4 _ _ _ _ _ _ _ _ (by omega), ho4.cell (by simp; omega), World.cell?_alloc_past _ _ _ (by omega), ho3.cell (by simp; omega) (by simp; omega)]
        exact World.cell?_alloc_past _ _ _ (by omega)
      · refine RepG.keep (fun b hb => ⟨by simp at hb; omega, by rw [size_set4]; simp at hb; omega⟩) (fun b o hb => ?_) hl2
        simp at hb
        rw [cell_set4 _ _ _ _ _ _ _ _ (by omega), ho4.cell (by simp; omega), World.cell?_alloc_past _ _ _ (by omega)]

theorem term_any (ns : List Int) : ∀ d : Nat, d ≤ 100 → TermOk ns d
  | 0, _ => term_zero ns
  | d + 1, h => term_succ ns d (by omega) (term_any ns d (by omega))

end Go.Proofs.YtgmmbfnmojjbkaaGreatDoor
