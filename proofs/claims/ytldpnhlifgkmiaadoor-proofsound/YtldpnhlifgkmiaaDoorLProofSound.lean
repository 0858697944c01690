import Derived.Test.YtldpnhlifgkmiaaDoorVU
namespace Go.Proofs.YtldpnhlifgkmiaaDoor
open Go.RowKit
set_option linter.unusedVariables false
set_option linter.unusedSimpArgs false

theorem MvsAt.take {w : World} {B : Nat} {ms : List Mv} {A : Option Addr} (h : MvsAt w B ms A) (j : Nat) : MvsAt w B (ms.take j) A := by
  rcases h with h | ⟨mb, mo, e, hl, hc⟩
  · exact .inl (by rw [h]; simp)
  · refine .inr ⟨mb, mo, e, hl, fun i hi => ?_⟩
    rw [List.length_take] at hi
    have := hc i (by omega)
    rwa [show (ms.take j).getD i mv0 = ms.getD i mv0 from by simp [List.getD, List.getElem?_take, show i < j by omega]]
theorem MvsAt.below {w w' : World} {B : Nat} {ms : List Mv} {A : Option Addr} (h : MvsAt w B ms A) (hb : Below B w w') : MvsAt w' B ms A := by
  rcases h with h | ⟨mb, mo, e, hl, hc⟩
  · exact .inl h
  · have hcl : ∀ o, w'.cell? ⟨mb, o, none⟩ = w.cell? ⟨mb, o, none⟩ := fun o => hb.cell (by simpa using hl)
    exact .inr ⟨mb, mo, e, hl, fun i hi => by rw [hcl, hcl, hcl, hcl]; exact hc i hi⟩

set_option maxRecDepth 100000 in
set_option maxHeartbeats 4000000 in
theorem proofSound_any (w : World) (B : Nat) (ns : List Int) (L1 : Option Addr) (c1 : Nat) (ms : List Int) (L2 : Option Addr) (c2 : Nat) (hB : B ≤ w.heap.size) (hns : NumsAt w B ns L1) (fn : NumsFit ns) (hms : NumsAt w B ms L2) (fm : NumsFit ms) (htab : Tab10 w.heap.size w) :
    Calls Tryd.prog 7 #[.slice L1 ns.length c1, .slice L2 ms.length c2] w fun e w' => e = .returned (.bool true) ∧ Below w.heap.size w w' := by
  have HTB : Hid (Tab10 w.heap.size w) := htab
  clear htab
  go_enter Tryd.func7, Tryd.ntmps7
  go_wp2_with fail
  refine (known4_any _ HTB.out).mono ?_
  rintro e w1 ⟨rfl, ho1⟩
  go_wp2_with fail
  have hs1 := ho1.size
  refine (terms_any ns L1 c1 B 8 8 rfl (by omega) w1 (by omega) (nums_below hns (ho1.mono hB)) fn fn.1).mono ?_
  rintro e w2 ⟨v, ks, rfl, hk2, ho2, hterms⟩
  obtain ⟨hsl, hmay⟩ := hterms.sl
  have hnk := nodesK_le ks hmay
  have hb2 : Below w.heap.size w w2 := ho1.trans (ho2.mono hs1)
  have HV : Hid (SlT w2 v ks) := hsl
  have HM : Hid (∀ k ∈ ks, may k.a k.l = true) := hmay
  have hs2 := hb2.size
  clear hsl hmay ho1 ho2 hterms hns hs1
  go_wp2_with fail
  refine (moves_any ms L2 c2 B 40 40 rfl (by omega) w2 (by omega) (nums_below hms (hb2.mono hB)) fm fm.1).mono ?_
  rintro e w3 ⟨A, c, mv, rfl, hml, ho3, hmv, hsh, hmc⟩
  have hb3 : Below w.heap.size w w3 := hb2.trans (ho3.mono hs2)
  have HV3 : Hid (SlT w3 v ks) := HV.out.below ho3
  have HMV : Hid (MvsAt w3 w3.heap.size mv A) := hmv
  have HSH : Hid (∀ m ∈ mv, m.s.size ≤ maxLen) := hsh
  clear ho3 hmv hsh HV hms
  go_wp2_with fail
  go_loopw [6] (fun kv wr => ∃ j : Nat, kv = .slice A j c ∧ j ≤ mv.length ∧ Below w3.heap.size w3 wr) (fun kv _ => lenV kv)
  case atStart => exact ⟨mv.length, rfl, by omega, Below.refl _ _⟩
  case round =>
    obtain ⟨j, rfl, hj, hbl⟩ := hrel
    cases j with
    | zero =>
      go_wp2_with fail
      go_ret
      exact ⟨rfl, hb3.trans (hbl.mono hb3.size)⟩
    | succ j =>
      have hlt : (mv.take (j + 1)).length = j + 1 := by rw [List.length_take]; omega
      have hjp : decide ((0 : Int) < (j : Int) + 1) = true := decide_eq_true (by omega)
      have hjc : j ≤ c := by omega
      have HRUN : Hid (Calls Tryd.prog 24 #[v, .slice A (j + 1) c] wr fun e w' => RunEnd wr (tms ks) (mv.take (j + 1)) e w') := by
        have h := run_any ks v (mv.take (j + 1)) A c w3.heap.size wr (HV3.out.below hbl) (by omega) HM.out hbl.size ((HMV.out.below hbl).take (j + 1)) (by rw [hlt]; omega) (fun m hm => HSH.out m (List.mem_of_mem_take hm))
        rwa [hlt] at h
      have HLT : Hid ((mv.take (j + 1)).length = j + 1) := hlt
      clear hlt
      go_wp2_with fail
      refine Calls.mono HRUN.out ?_
      rintro e w4 ⟨hb4, ⟨z, hz, hz0, rfl⟩ | ⟨js, xv, hjs, rfl, hta, hjl⟩⟩
      · have hzne : (z == 0) = false := by simp [hz0]
        have hbe : Below w3.heap.size w3 w4 := hbl.trans (hb4.mono hbl.size)
        clear hz hz0 HRUN
        go_wp2_with fail
        go_roundw
        case rel => exact ⟨j, by simp, by omega, hbe⟩
        case measure => simp [lenV]
      · have hrs : runS (tms ks) [] (mv.take (j + 1)) = .ok (tms js) := by
          unfold runP at hjs
          split at hjs
          · cases hjs
          · exact hjs
        have HKN : Hid (∀ k ∈ js, may k.a k.l = true ∧ Knows (tms ks) k.a k.l) := fun k hk => run_knows _ [] _ (by simp) hrs (k.a, k.l) (List.mem_map_of_mem hk)
        obtain ⟨hslx, _⟩ := hta.sl
        have HX : Hid (SlT w4 xv js) := hslx
        have HJL : Hid (js.length = j + 1) := hjl.trans HLT.out
        have hjl2 : js.length ≤ 40 := by have := HJL.out; omega
        have hb4w : Below w3.heap.size w3 w4 := hbl.trans (hb4.mono hbl.size)
        obtain ⟨XA, xc, rfl, hXA⟩ := hslx.len
        have HXA : Hid (js.length = 0 ∨ ∃ g, XA = some ⟨g, 0, none⟩ ∧ RowT w4 g js) := hXA
        clear hjs hrs hta hjl hslx hXA HRUN
        go_wp2_with fail
        go_loopw [9] (fun iv wr => ∃ i : Nat, iv = .int .i64 (i : Int) ∧ i ≤ js.length ∧ Below w4.heap.size w4 wr) (fun iv _ => js.length - (intOf iv).toNat)
        case atStart => exact ⟨0, rfl, by omega, Below.refl _ _⟩
        case round =>
          obtain ⟨i, rfl, hi, hbi⟩ := hrel
          by_cases hil : i < js.length
          · obtain ⟨g, rfl, hrow⟩ : ∃ g, XA = some ⟨g, 0, none⟩ ∧ RowT w4 g js := by rcases HXA.out with h | h; omega; exact h
            obtain ⟨e0, e1, e2, e3⟩ := (hrow.below hbi).at i hil
            have hok := (hrow.below hbi).ok i hil
            have hkn := HKN.out _ (getD_mem hil)
            generalize js.getD i kd0 = q at *
            have HQ : Hid (q.Ok wr (fun b => b < wr.heap.size) ∧ may q.a q.l = true ∧ Knows (tms ks) q.a q.l) := ⟨hok.1, hkn⟩
            clear hok hkn hrow
            have hni : (i : Int) < (js.length : Int) := by omega
            have hn0 : (0 : Int) ≤ (i : Int) := by omega
            go_wp2_with fail
            refine (refCan_any ks v q.a q.l _ wr.heap.size wr (HV3.out.below (hb4w.trans (hbi.mono hb4w.size))) HM.out (by omega) (Kd.rep HQ.out.1) (Nat.le_refl _) HQ.out.2.1).mono ?_
            intro e w5 h5
            obtain ⟨rfl, ho5⟩ := canEnd_true HQ.out.2.2 h5
            have hbe : Below w4.heap.size w4 w5 := hbi.trans (ho5.mono hbi.size)
            clear h5 ho5 e0 e1 e2 e3
            go_wp2_with fail
            go_roundw
            case rel => exact ⟨i + 1, by go_num, hil, hbe⟩
            case measure => simp [intOf]; omega
          · obtain rfl : i = js.length := by omega
            have hni : decide ((js.length : Int) < (js.length : Int)) = false := by simp
            have hee : ((js.length : Int) == (j : Int) + 1) = true := by have := HJL.out; simp; omega
            go_wp2_with fail
            go_ret
            exact ⟨rfl, hb3.trans ((hb4w.trans (hbi.mono hb4w.size)).mono hb3.size)⟩

end Go.Proofs.YtldpnhlifgkmiaaDoor
