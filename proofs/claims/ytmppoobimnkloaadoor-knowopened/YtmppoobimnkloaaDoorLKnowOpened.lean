import Derived.Test.YtmppoobimnkloaaDoorKG
namespace Go.Proofs.YtmppoobimnkloaaDoor
open Go.RowKit
set_option linter.unusedVariables false
set_option linter.unusedSimpArgs false

theorem clos_idem {us L : List (Nd × Fo)} (h : Clos us L) : Clos L L := by
  intro t
  constructor
  · exact Fol.base
  · intro hf
    refine hf (InL L) ?_ (fun t ht => ht)
    intro t u ht hu
    exact (h u).2 (((h t).1 ht).out hu)

set_option maxRecDepth 20000 in
set_option maxHeartbeats 1000000 in
/-- Open, where little is learnt. -/
theorem open_big (ks : List Kd) (v : Value) (w : World) (h : SlT w v ks) (hm : ∀ k ∈ ks, may k.a k.l = true) (hN : nodesK ks ≤ 50000) (hL : (learnL ks []).length ≤ 1000) (hl : ks.length ≤ 1000) (htab : Tab10 w.heap.size w) :
    Calls Tryd.prog 7 #[v] w fun e w' => OpenEnd w ks e w' := by
  have HO : Hid (Calls Tryd.prog 18 #[v] w fun e w' => OpEnd w ks e w') := opened_any ks v w h (fun k hk => may_dmay (hm k hk)) hN hl htab
  clear h htab hm
  go_enter Tryd.func7, Tryd.ntmps7
  go_wp2_with fail
  refine Calls.mono HO.out ?_
  rintro e w1 ⟨ks', lv, rfl, hst, hb1, ht, hc⟩
  have HST : Hid (LSt w1 w.heap.size lv ks') := hst
  have HT : Hid (tms ks' = learnL ks []) := ht
  have hlk : ks'.length ≤ 1000 := by
    have := congrArg List.length ht
    unfold tms at this
    rw [List.length_map] at this
    omega
  clear hst ht
  go_wp2_with fail
  refine (sortK HST.out.sl (fun k hk => (HST.out.ok k hk).2) hlk).mono ?_
  rintro e w2 ⟨M, u, rfl, h1, h2, h3, h4, h5, h6, h7⟩
  have HE : Hid (OpenEnd w ks (.returned u) w2) := ⟨ks', M, u, rfl, HT.out, h1, h2, h3, h4, h5, h6, hb1.trans (h7.mono hb1.size)⟩
  clear h1 h2 h3 h4 h5 h6 h7
  go_wp2_with fail
  go_ret
  exact HE.out

theorem learn_small {us : List (Nd × Fo)} {M : List Kd} (hm : ∀ k ∈ M, may k.a k.l = true) (h : Clos us (tms M)) : (learnL M []).length ≤ M.length := by
  have hs := learnL_spec M [] hm (fun x hx => by cases hx)
  have := nodup_len (learnL M []) (tms M) (hs.nod (by simp)) (fun x hx => by
    exact (clos_idem h _).2 ((hs.clos _).1 ⟨x, hx, rfl⟩))
  simpa [tms] using this

theorem learn_nodes {ks : List Kd} (hm : ∀ k ∈ ks, may k.a k.l = true) : ∀ (f : Fo) (n : Nat) (L : List (Nd × Fo)), (learnG n f L).length ≤ L.length + nodesF f
  | .nil, n, L => by cases n <;> simp [learnG]
  | .node x y a l r, n + 1, L => by
    rw [learnG]
    have := learn_nodes hm r n L
    simp only [nodesF]; omega
  | .node x y a l r, 0, L => by
    rw [learnG_node]
    have h1 := learn_nodes hm r 0 (learnT a l L)
    have h2 : (learnT a l L).length ≤ L.length + (1 + nodesF l) := by
      unfold learnT
      split
      · omega
      · have := learn_nodes hm l (skipOf a.kind) (L ++ [(a, l)])
        simp at this; omega
    simp only [nodesF]; omega
theorem learnT_len (a : Nd) (l : Fo) (L : List (Nd × Fo)) : (learnT a l L).length ≤ L.length + (1 + nodesF l) := by
  unfold learnT
  split
  · omega
  · have := learn_nodes (ks := []) (by simp) l (skipOf a.kind) (L ++ [(a, l)])
    simp at this; omega
theorem learnL_len : ∀ (ks : List Kd) (L : List (Nd × Fo)), (learnL ks L).length ≤ L.length + nodesK ks
  | [], L => by simp [learnL, nodesK]
  | k :: r, L => by
    rw [learnL]
    have h1 := learnL_len r (learnT k.a k.l L)
    have h2 := learnT_len k.a k.l L
    simp only [nodesK]; omega

theorem among_in {us : List (Nd × Fo)} {M : List Kd} (h : Clos us (tms M)) {t : Nd × Fo} (ht : Fol (InL us) (nm t)) : amongB M t.1 t.2 = true := (among_iff M t.1 t.2).2 ((h _).2 ht)

set_option maxRecDepth 100000 in
set_option maxHeartbeats 20000000 in
theorem knowOpened_any (w : World) (B : Nat) (ns : List Int) (L1 : Option Addr) (c1 : Nat) (hB : B ≤ w.heap.size) (hns : NumsAt w B ns L1) (fn : NumsFit ns) (htab : Tab10 w.heap.size w) :
    Calls Tryd.prog 3 #[.slice L1 ns.length c1] w fun e w' => e = .returned (.bool true) ∧ Below w.heap.size w w' := by
  have HTB : Hid (Tab10 w.heap.size w) := htab
  clear htab
  go_enter Tryd.func3, Tryd.ntmps3
  go_wp2_with fail
  refine (known3_any _ HTB.out).mono ?_
  rintro e w1 ⟨rfl, ho1⟩
  go_wp2_with fail
  have hs1 := ho1.size
  refine (terms_any ns L1 c1 B 12 12 rfl (by omega) w1 (by omega) (nums_below hns (ho1.mono hB)) fn fn.1).mono ?_
  rintro e w2 ⟨v, ks, rfl, hk2, ho2, hterms⟩
  obtain ⟨hsl, hmay⟩ := hterms.sl
  have hnk := nodesK_le ks hmay
  have hb2 : Below w.heap.size w w2 := ho1.trans (ho2.mono hs1)
  have HV : Hid (SlT w2 v ks) := hsl
  have HM : Hid (∀ k ∈ ks, may k.a k.l = true) := hmay
  clear hsl hmay ho1 ho2 hterms hns hs1
  go_wp2_with fail
  refine Calls.mono (open_any ks _ w2 HV.out (fun k hk => may_dmay (HM.out k hk)) (by omega) (by omega) (HTB.out.keep hb2)) ?_
  intro e w3 he
  obtain ⟨M, x, rfl, hslM, hmM, hri, hcl, hM1, hM2, ho3⟩ := he.clos HM.out
  have hML : M.length ≤ 768 := by have := learnL_len ks []; simp at this; omega
  have HVM : Hid (SlT w3 x M) := hslM
  have HMM : Hid (∀ k ∈ M, may k.a k.l = true) := hmM
  have HRI : Hid (Rises M) := hri
  have HCL : Hid (Clos (tms ks) (tms M)) := hcl
  have HV3 : Hid (SlT w3 v ks) := HV.out.below ho3
  have hb3 : Below w.heap.size w w3 := hb2.trans (ho3.mono hb2.size)
  clear he hslM hmM hri hcl ho3 HV hb2 hM2
  obtain ⟨A, c, rfl, hA⟩ := HV3.out.len
  obtain ⟨XA, xc, rfl, hXA⟩ := HVM.out.len
  have HA : Hid (ks.length = 0 ∨ ∃ g, A = some ⟨g, 0, none⟩ ∧ RowT w3 g ks) := hA
  have HXA : Hid (M.length = 0 ∨ ∃ g, XA = some ⟨g, 0, none⟩ ∧ RowT w3 g M) := hXA
  clear hA hXA
  go_wp2_with fail
  go_loopw [5] (fun iv wr => ∃ n : Nat, iv = .int .i64 (n : Int) ∧ n ≤ ks.length ∧ Below w3.heap.size w3 wr) (fun iv _ => ks.length - (intOf iv).toNat)
  case atStart => exact ⟨0, rfl, by omega, Below.refl _ _⟩
  case round =>
    obtain ⟨n, rfl, hn, hbl⟩ := hrel
    by_cases hlt : n < ks.length
    · obtain ⟨g, rfl, hrow⟩ : ∃ g, A = some ⟨g, 0, none⟩ ∧ RowT w3 g ks := by rcases HA.out with h | h; omega; exact h
      obtain ⟨e0, e1, e2, e3⟩ := (hrow.below hbl).at n hlt
      have hok := (hrow.below hbl).ok n hlt
      have hin : amongB M (ks.getD n kd0).a (ks.getD n kd0).l = true := among_in HCL.out (t := ((ks.getD n kd0).a, (ks.getD n kd0).l)) (Fol.base ⟨_, List.mem_map_of_mem (getD_mem hlt), rfl⟩)
      generalize ks.getD n kd0 = z at *
      have HZ : Hid (z.Ok wr (fun b => b < wr.heap.size) ∧ z.Ar) := hok
      clear hok hrow
      have hni : (n : Int) < (ks.length : Int) := by omega
      have hn0 : (0 : Int) ≤ (n : Int) := by omega
      go_wp2_with fail
      refine (among_any M _ z.a z.l _ wr.heap.size wr (HVM.out.below hbl) (by omega) (Kd.rep HZ.out.1) (Nat.le_refl _) HZ.out.2.1 HZ.out.2.2).mono ?_
      rintro e w4 ⟨rfl, ho4⟩
      rw [hin]
      have hbe : Below w3.heap.size w3 w4 := hbl.trans (ho4.mono hbl.size)
      clear hin e0 e1 e2 e3
      go_wp2_with fail
      go_roundw
      case rel => exact ⟨n + 1, by go_num, hlt, hbe⟩
      case measure => simp [intOf]; omega
    · obtain rfl : n = ks.length := by omega
      have hni : decide ((ks.length : Int) < (ks.length : Int)) = false := by simp
      go_wp2_with fail
      go_loopw [6] (fun iv wr => ∃ n : Nat, iv = .int .i64 (n : Int) ∧ n ≤ M.length ∧ Below w3.heap.size w3 wr) (fun iv _ => M.length - (intOf iv).toNat)
      case atStart => exact ⟨0, rfl, by omega, hbl⟩
      case round =>
        obtain ⟨n, rfl, hn, hbl2⟩ := hrel
        clear hbl
        by_cases hlt : n < M.length
        · have hni2 : (n : Int) < (M.length : Int) := by omega
          have hn0 : (0 : Int) ≤ (n : Int) := by omega
          obtain ⟨g, rfl, hrow⟩ : ∃ g, XA = some ⟨g, 0, none⟩ ∧ RowT w3 g M := by rcases HXA.out with h | h; omega; exact h
          have hc : ∀ W, Below w3.heap.size w3 W → _ := fun W hW => (hrow.below hW).at n hlt
          have hok := hrow.ok n hlt
          have hmz := HMM.out _ (getD_mem hlt)
          have hfz : Fol (InL (tms ks)) (nm ((M.getD n kd0).a, (M.getD n kd0).l)) := (HCL.out _).1 ⟨_, List.mem_map_of_mem (getD_mem hlt), rfl⟩
          generalize M.getD n kd0 = z at *
          have HC : Hid _ := hc
          have HZ : Hid (z.Ok w3 (fun b => b < w3.heap.size) ∧ may z.a z.l = true) := ⟨hok.1, hmz⟩
          have HFZ : Hid (Fol (InL (tms ks)) (nm (z.a, z.l))) := hfz
          have HAM : Hid (∀ (k : Kd) (W : World), Below w3.heap.size w3 W → k.Ok w3 (fun b => b < w3.heap.size) → may k.a k.l = true → Fol (InL (tms ks)) (nm (k.a, k.l)) → Calls Tryd.prog 8 #[.slice (some ⟨g, 0, none⟩) M.length xc, k.val] W fun e w' => e = .returned (.bool true) ∧ Below w3.heap.size w3 w') := fun k W hW hk hm hf => by
            have hin := among_in HCL.out (t := (k.a, k.l)) hf
            refine (among_any M _ k.a k.l _ W.heap.size W (HVM.out.below hW) (by omega) (Kd.rep (hk.below hW)) (Nat.le_refl _) (may_ar _ _ hm).1 (may_ar _ _ hm).2).mono ?_
            rintro e w' ⟨rfl, h⟩
            exact ⟨by rw [show amongB M k.a k.l = true from hin], hW.trans (h.mono hW.size)⟩
          have HCAN : Hid (∀ (W : World), Below w3.heap.size w3 W → Calls Tryd.prog 9 #[.slice A ks.length c, z.val] W fun e w' => e = .returned (.bool true) ∧ Below w3.heap.size w3 w') := fun W hW => by
            refine (knowCan_any ks _ z.a z.l _ W.heap.size W (HV3.out.below hW) HM.out (by omega) (by omega) (Kd.rep (HZ.out.1.below hW)) (Nat.le_refl _) HZ.out.2 (HTB.out.keep (hb3.trans (hW.mono hb3.size)))).mono ?_
            intro e w' h
            have := canEnd_true (.inr (.inl HFZ.out)) h
            exact ⟨this.1, hW.trans (this.2.mono hW.size)⟩
          have hkids : ∀ k ∈ kidL z.l, may k.1 k.2 = true := amay_mem (may_amay hmz)
          obtain ⟨e0, e1, e2, e3⟩ := HC.out wr hbl2
          clear hc hok hfz hrow
          have HEV : Hid (∀ (K : Int) (A' : Option Addr) (L' : Nat), z.a.kind = K → z.A = A' → flen z.l = L' → (∀ W, Below w3.heap.size w3 W → W.cell? ⟨g, n * 4, none⟩ = some (.int .i64 K) ∧ W.cell? ⟨g, n * 4 + 1, none⟩ = some (.int .i64 z.a.n) ∧ W.cell? ⟨g, n * 4 + 2, none⟩ = some (.string z.a.s) ∧ W.cell? ⟨g, n * 4 + 3, none⟩ = some (.slice A' L' z.cap)) ∧ ∀ W, Below w3.heap.size w3 W → Calls Tryd.prog 9 #[.slice A ks.length c, .agg #[.int .i64 K, .int .i64 z.a.n, .string z.a.s, .slice A' L' z.cap]] W fun e w' => e = .returned (.bool true) ∧ Below w3.heap.size w3 w') := by
            rintro K A' L' rfl rfl rfl
            exact ⟨HC.out, HCAN.out⟩
          clear e0 e1 e2 e3
          dsimp only [List.append]
          by_cases h7 : z.a.kind = 7
          · have hfl : flen z.l = 2 := by have := (may_ar _ _ hmz).1; rw [h7] at this; simp [kidsOf] at this; omega
            obtain ⟨k1, k2, hkd, hk1, hk2, hkA, hkb, hnd, hcs1, hcs2⟩ := two_kids HZ.out.1 hfl
            rw [hkd] at hkids
            have HK1 : Hid (k1.Ok w3 (fun b => b < w3.heap.size) ∧ may k1.a k1.l = true ∧ Fol (InL (tms ks)) (nm (k1.a, k1.l))) := ⟨hk1, hkids (k1.a, k1.l) (by simp), HFZ.out.out (by rw [outs_nm]; refine List.mem_map_of_mem ?_; unfold outs skipOf; rw [if_pos h7, hkd]; simp)⟩
            have HK2 : Hid (k2.Ok w3 (fun b => b < w3.heap.size) ∧ may k2.a k2.l = true ∧ Fol (InL (tms ks)) (nm (k2.a, k2.l))) := ⟨hk2, hkids (k2.a, k2.l) (by simp), HFZ.out.out (by rw [outs_nm]; refine List.mem_map_of_mem ?_; unfold outs skipOf; rw [if_pos h7, hkd]; simp)⟩
            have cA1 : Hid (∀ W, Below w3.heap.size w3 W → Calls Tryd.prog 8 #[.slice (some ⟨g, 0, none⟩) M.length xc, .agg #[.int .i64 k1.a.kind, .int .i64 k1.a.n, .string k1.a.s, .slice k1.A (flen k1.l) k1.cap]] W fun e w' => e = .returned (.bool true) ∧ Below w3.heap.size w3 w') := fun W hW => HAM.out k1 W hW HK1.out.1 HK1.out.2.1 HK1.out.2.2
            have cA2 : Hid (∀ W, Below w3.heap.size w3 W → Calls Tryd.prog 8 #[.slice (some ⟨g, 0, none⟩) M.length xc, .agg #[.int .i64 k2.a.kind, .int .i64 k2.a.n, .string k2.a.s, .slice k2.A (flen k2.l) k2.cap]] W fun e w' => e = .returned (.bool true) ∧ Below w3.heap.size w3 w') := fun W hW => HAM.out k2 W hW HK2.out.1 HK2.out.2.1 HK2.out.2.2
            have HD1 : Hid (∀ W, Below w3.heap.size w3 W → W.cell? ⟨z.b, z.o, none⟩ = some (.int .i64 k1.a.kind) ∧ W.cell? ⟨z.b, z.o + 1, none⟩ = some (.int .i64 k1.a.n) ∧ W.cell? ⟨z.b, z.o + 2, none⟩ = some (.string k1.a.s) ∧ W.cell? ⟨z.b, z.o + 3, none⟩ = some (.slice k1.A (flen k1.l) k1.cap)) := fun W hW => ⟨(hW.cell hkb).trans hcs1.1, (hW.cell hkb).trans hcs1.2.1, (hW.cell hkb).trans hcs1.2.2.1, (hW.cell hkb).trans hcs1.2.2.2⟩
            have HD2 : Hid (∀ W, Below w3.heap.size w3 W → W.cell? ⟨z.b, z.o + 4, none⟩ = some (.int .i64 k2.a.kind) ∧ W.cell? ⟨z.b, z.o + 4 + 1, none⟩ = some (.int .i64 k2.a.n) ∧ W.cell? ⟨z.b, z.o + 4 + 2, none⟩ = some (.string k2.a.s) ∧ W.cell? ⟨z.b, z.o + 4 + 3, none⟩ = some (.slice k2.A (flen k2.l) k2.cap)) := fun W hW => ⟨(hW.cell hkb).trans hcs2.1, (hW.cell hkb).trans hcs2.2.1, (hW.cell hkb).trans hcs2.2.2.1, (hW.cell hkb).trans hcs2.2.2.2⟩
            have hev := HEV.out 7 _ 2 h7 hkA hfl
            have HCE : Hid (∀ W, Below w3.heap.size w3 W → W.cell? ⟨g, n * 4, none⟩ = some (.int .i64 7) ∧ W.cell? ⟨g, n * 4 + 1, none⟩ = some (.int .i64 z.a.n) ∧ W.cell? ⟨g, n * 4 + 2, none⟩ = some (.string z.a.s) ∧ W.cell? ⟨g, n * 4 + 3, none⟩ = some (.slice (some ⟨z.b, z.o, none⟩) 2 z.cap)) := hev.1
            have HCC : Hid (∀ W, Below w3.heap.size w3 W → Calls Tryd.prog 9 #[.slice A ks.length c, .agg #[.int .i64 7, .int .i64 z.a.n, .string z.a.s, .slice (some ⟨z.b, z.o, none⟩) 2 z.cap]] W fun e w' => e = .returned (.bool true) ∧ Below w3.heap.size w3 w') := hev.2
            have hzb : z.b < w3.heap.size := hkb
            have hlt' : Hid (n < M.length) := hlt
            obtain ⟨d10, d11, d12, d13⟩ := HD1.out wr hbl2
            obtain ⟨e0, e1, e2, e3⟩ := HCE.out wr hbl2
            clear h7 hkd hkids hk1 hk2 hkA hfl hnd hkb hcs1 hcs2 hev hmz HAM HCAN HEV HC HZ HFZ HMM HVM HRI HCL HV3 HM HTB HA HXA HK1 HK2
            go_wp2_with fail
            refine (cA1.out wr hbl2).mono ?_
            rintro e w4 ⟨rfl, ho4⟩
            clear d10 d11 d12 d13 e0 e1 e2 e3 HD1 cA1
            obtain ⟨e0, e1, e2, e3⟩ := HCE.out w4 ho4
            obtain ⟨d20, d21, d22, d23⟩ := HD2.out w4 ho4
            go_wp2_with fail
            refine (cA2.out w4 ho4).mono ?_
            rintro e w5 ⟨rfl, ho5⟩
            clear d20 d21 d22 d23 e0 e1 e2 e3 HD2 cA2
            obtain ⟨e0, e1, e2, e3⟩ := HCE.out w5 ho5
            go_wp2_with fail
            refine (HCC.out w5 ho5).mono ?_
            rintro e w6 ⟨rfl, ho6⟩
            clear e0 e1 e2 e3
            go_wp2_with fail
            go_roundw
            case rel => exact ⟨n + 1, by go_num, hlt'.out, ho6⟩
            case measure => simp [intOf]; omega
          · by_cases h6 : z.a.kind = 6
            · have hfl : flen z.l = 2 := by have := (may_ar _ _ hmz).1; rw [h6] at this; simp [kidsOf] at this; omega
              obtain ⟨k1, k2, hkd, hk1, hk2, hkA, hkb, hnd, hcs1, hcs2⟩ := two_kids HZ.out.1 hfl
              rw [hkd] at hkids
              have HK2 : Hid (k2.Ok w3 (fun b => b < w3.heap.size) ∧ may k2.a k2.l = true ∧ Fol (InL (tms ks)) (nm (k2.a, k2.l))) := ⟨hk2, hkids (k2.a, k2.l) (by simp), HFZ.out.out (by rw [outs_nm]; refine List.mem_map_of_mem ?_; unfold outs skipOf; rw [if_neg h7, if_pos h6, hkd]; simp)⟩
              have cA2 : Hid (∀ W, Below w3.heap.size w3 W → Calls Tryd.prog 8 #[.slice (some ⟨g, 0, none⟩) M.length xc, .agg #[.int .i64 k2.a.kind, .int .i64 k2.a.n, .string k2.a.s, .slice k2.A (flen k2.l) k2.cap]] W fun e w' => e = .returned (.bool true) ∧ Below w3.heap.size w3 w') := fun W hW => HAM.out k2 W hW HK2.out.1 HK2.out.2.1 HK2.out.2.2
              have HD2 : Hid (∀ W, Below w3.heap.size w3 W → W.cell? ⟨z.b, z.o + 4, none⟩ = some (.int .i64 k2.a.kind) ∧ W.cell? ⟨z.b, z.o + 4 + 1, none⟩ = some (.int .i64 k2.a.n) ∧ W.cell? ⟨z.b, z.o + 4 + 2, none⟩ = some (.string k2.a.s) ∧ W.cell? ⟨z.b, z.o + 4 + 3, none⟩ = some (.slice k2.A (flen k2.l) k2.cap)) := fun W hW => ⟨(hW.cell hkb).trans hcs2.1, (hW.cell hkb).trans hcs2.2.1, (hW.cell hkb).trans hcs2.2.2.1, (hW.cell hkb).trans hcs2.2.2.2⟩
              have hev := HEV.out 6 _ 2 h6 hkA hfl
              have HCE : Hid (∀ W, Below w3.heap.size w3 W → W.cell? ⟨g, n * 4, none⟩ = some (.int .i64 6) ∧ W.cell? ⟨g, n * 4 + 1, none⟩ = some (.int .i64 z.a.n) ∧ W.cell? ⟨g, n * 4 + 2, none⟩ = some (.string z.a.s) ∧ W.cell? ⟨g, n * 4 + 3, none⟩ = some (.slice (some ⟨z.b, z.o, none⟩) 2 z.cap)) := hev.1
              have HCC : Hid (∀ W, Below w3.heap.size w3 W → Calls Tryd.prog 9 #[.slice A ks.length c, .agg #[.int .i64 6, .int .i64 z.a.n, .string z.a.s, .slice (some ⟨z.b, z.o, none⟩) 2 z.cap]] W fun e w' => e = .returned (.bool true) ∧ Below w3.heap.size w3 w') := hev.2
              have hzb : z.b < w3.heap.size := hkb
              have hlt' : Hid (n < M.length) := hlt
              obtain ⟨d20, d21, d22, d23⟩ := HD2.out wr hbl2
              obtain ⟨e0, e1, e2, e3⟩ := HCE.out wr hbl2
              clear h6 h7 hkd hkids hk1 hk2 hkA hfl hnd hkb hcs1 hcs2 hev hmz HAM HCAN HEV HC HZ HFZ HMM HVM HRI HCL HV3 HM HTB HA HXA HK2
              go_wp2_with fail
              refine (cA2.out wr hbl2).mono ?_
              rintro e w5 ⟨rfl, ho5⟩
              clear d20 d21 d22 d23 e0 e1 e2 e3 HD2 cA2
              obtain ⟨e0, e1, e2, e3⟩ := HCE.out w5 ho5
              go_wp2_with fail
              refine (HCC.out w5 ho5).mono ?_
              rintro e w6 ⟨rfl, ho6⟩
              clear e0 e1 e2 e3
              go_wp2_with fail
              go_roundw
              case rel => exact ⟨n + 1, by go_num, hlt'.out, ho6⟩
              case measure => simp [intOf]; omega
            · have hev := HEV.out _ _ _ rfl rfl rfl
              have HCC : Hid _ := hev.2
              obtain ⟨e0, e1, e2, e3⟩ := hev.1 wr hbl2
              have k7 : (z.a.kind == 7) = false := by simp [h7]
              have k6 : (z.a.kind == 6) = false := by simp [h6]
              clear hkids hev hmz h6 h7 HAM HCAN HEV HC HZ HFZ HMM HVM HRI HCL HV3 HM HTB HA HXA
              go_wp2_with fail
              refine (HCC.out wr hbl2).mono ?_
              rintro e w6 ⟨rfl, ho6⟩
              clear e0 e1 e2 e3
              go_wp2_with fail
              go_roundw
              case rel => exact ⟨n + 1, by go_num, hlt, ho6⟩
              case measure => simp [intOf]; omega
        · obtain rfl : n = M.length := by omega
          have hni2 : decide ((M.length : Int) < (M.length : Int)) = false := by simp
          have hls := learn_small HMM.out HCL.out
          have hnM := nodesK_le M HMM.out
          go_wp2_with fail
          refine Calls.mono (open_big M _ wr (HVM.out.below hbl2) HMM.out (by omega) (by omega) (by omega) (HTB.out.keep (hb3.trans (hbl2.mono hb3.size)))) ?_
          intro e w4 he
          obtain ⟨M2, x2, rfl, hslM2, hmM2, hri2, hcl2, hM21, _, ho4⟩ := he.clos HMM.out
          have hun := open_unique hri2 HRI.out hcl2 (clos_idem HCL.out)
          have HUN : Hid (M2.length = M.length ∧ ∀ i, i < M2.length → ordK (M2.getD i kd0) (M.getD i kd0) = 0) := hun
          have HV2 : Hid (SlT w4 x2 M2) := hslM2
          have hb4 : Below w3.heap.size w3 w4 := hbl2.trans (ho4.mono hbl2.size)
          clear he hslM2 hmM2 hri2 hcl2 hun
          go_wp2_with fail
          refine (refAll_any M2 M x2 _ w4 HV2.out (HVM.out.below hb4) (by omega) HUN.out.1 HUN.out.2).mono ?_
          rintro e w5 ⟨rfl, ho5⟩
          go_wp2_with fail
          go_ret
          exact ⟨rfl, hb3.trans ((hb4.trans (ho5.mono hb4.size)).mono hb3.size)⟩

end Go.Proofs.YtmppoobimnkloaaDoor
