import Derived.Test.YtanpplgmdemlaaaGreatDoorGC
import Derived.Test.YtanpplgmdemlaaaGreatDoorY8
import Derived.Test.YtanpplgmdemlaaaGreatDoorKG
namespace Go.Proofs.YtanpplgmdemlaaaGreatDoor
open Go.RowKit
set_option linter.unusedVariables false
set_option linter.unusedSimpArgs false

theorem prov_true {us : List (Nd × Fo)} {ms : List Mv} {rs : List (Nd × Fo)} {u t : Nd × Fo} (hl : ms.length ≤ 1024) (hr : runS us [] ms = .ok rs) (hu : rs.getLast? = some u) (hn : nm u = nm t) : provB us ms t = true := by
  unfold provB runP
  rw [if_neg (by omega), hr]
  simp only [hu]
  have h0 : ordT u.1 u.2 t.1 t.2 = 0 := nm_iff.1 hn
  rw [h0]; rfl

set_option maxRecDepth 100000 in
set_option maxHeartbeats 4000000 in
theorem proofWay_any (w : World) (B : Nat) (ns : List Int) (L1 : Option Addr) (c1 : Nat) (ms : List Int) (L2 : Option Addr) (c2 : Nat) (hB : B ≤ w.heap.size) (hns : NumsAt w B ns L1) (fn : NumsFit ns) (hms : NumsAt w B ms L2) (fm : NumsFit ms) (htab : Tab10 w.heap.size w) :
    Calls Tryz.prog 3 #[.slice L1 ns.length c1, .slice L2 ms.length c2] w fun e w' => e = .returned (.bool true) ∧ Below w.heap.size w w' := by
  have HTB : Hid (Tab10 w.heap.size w) := htab
  clear htab
  obtain ⟨i5, hi, hz0, hz1, hz2⟩ := info_get Tryz.infoTerm
  go_enter Tryz.func3, Tryz.ntmps3
  go_wp2_with fail
  refine (known4_any _ HTB.out).mono ?_
  rintro e w1 ⟨rfl, ho1⟩
  go_wp2_with fail
  have hs1 := ho1.size
  refine (terms_any ns L1 c1 B 8 8 rfl (by omega) w1 (by omega) (nums_below hns (ho1.mono hB)) fn fn.1).mono ?_
  rintro e w5 ⟨v, ks, rfl, hk2, ho2, hterms⟩
  obtain ⟨hsl, hmay⟩ := hterms.sl
  have hnk := nodesK_le ks hmay
  have hb5 : Below w.heap.size w w5 := ho1.trans (ho2.mono hs1)
  have HV5 : Hid (SlT w5 v ks) := hsl
  have HM : Hid (∀ k ∈ ks, may k.a k.l = true) := hmay
  clear hsl hmay ho1 ho2 hterms hns hs1
  have hs5 := hb5.size
  go_wp2_with fail
  refine (terms_any ms L2 c2 B 4 4 rfl (by omega) w5 (by omega) (nums_below hms (hb5.mono hB)) fm fm.1).mono ?_
  rintro e w6 ⟨tv, js, rfl, hk6, ho6, hterms6⟩
  have HT6 : Hid (TermsAt w6 (w5.heap.size + 1) tv js) := hterms6
  have hs6 := ho6.size
  have hb6 : Below w.heap.size w w6 := hb5.trans (ho6.mono hs5)
  clear hterms6
  go_wp2_with fail
  refine (one_any ms L2 c2 B w6 (by omega) (nums_below hms (hb6.mono hB)) fm).mono ?_
  rintro e w7 ⟨u, rfl, ho7, hu⟩
  obtain ⟨kd, ka, kl, rfl, hkd⟩ := hu.kd
  have hmk : may kd.a kd.l = true := by rw [ka, kl]; exact one_may ms
  have HKD : Hid (kd.Ok w7 (fun b => w6.heap.size ≤ b ∧ b < w7.heap.size) ∧ may kd.a kd.l = true) := ⟨hkd, hmk⟩
  have hs7 := ho7.size
  have hvl := HT6.out.1.lt
  have HOB : Hid (∀ q, tv.ownBlock = some q → w5.heap.size + 1 ≤ q ∧ q < w6.heap.size) := hvl
  clear hu ka kl hkd hmk hms hvl
  go_wp2_with (at_builtin; refine wpList_append_any _ rfl _ _ 24 rfl (w5.heap.size + 1) 27 i5 (.agg #[.int .i64 0, .int .i64 0, .string ⟨#[]⟩, .slice none 0 0]) 4 56 Tryz.underlying24 hi hz0 hz1 hz2 rfl (by decide) tv js.length (rowOf js) rfl ?own (some ⟨w7.heap.size, 0, none⟩) 1 1 kd.cells rfl ?src ?c3 ?c4 ?c5 ?_)
  case own => exact (owns_below HT6.out.1 ho7).alloc _
  case src => exact .inr ⟨_, rfl, rfl, World.news_of_block (cs := #[.int .i64 kd.a.kind, .int .i64 kd.a.n, .string kd.a.s, .slice kd.A (flen kd.l) kd.cap]) (t := 27) (fr := (0, 0)) (heap_alloc_new w7 _), by simp [Kd.cells, Value.oneCell']⟩
  case c3 => unfold maxLen; omega
  case c4 => omega
  case c5 => simp; omega
  intro v8 w8 hown8 hgrow8 hat8
  obtain ⟨hsl8, hm8⟩ := sl_append HT6.out ho7 HKD.out.1 HKD.out.2 hown8 hgrow8
  have hb58 : Below w5.heap.size w5 w8 := grown_belowT ((ho6.trans (ho7.mono hs6)).trans ((Below.alloc (Below.refl _ _) (Nat.le_refl _) _).mono (by omega))) hgrow8 (fun q hq => by have := HOB.out q hq; omega)
  have hb8 : Below w.heap.size w w8 := hb5.trans (hb58.mono hs5)
  have HV8 : Hid (SlT w8 v ks) := HV5.out.below hb58
  have HJ8 : Hid (SlT w8 v8 (js ++ [kd])) := hsl8
  have HMJ : Hid (∀ k ∈ js ++ [kd], may k.a k.l = true) := hm8
  have hjl : (js ++ [kd]).length ≤ 5 := by simp; omega
  clear hown8 hgrow8 hat8 hsl8 hm8 HV5 HT6 HKD HOB ho6 ho7
  generalize js ++ [kd] = rs at *
  obtain ⟨A, c, rfl, hA⟩ := HJ8.out.len
  have HA : Hid (rs.length = 0 ∨ ∃ g, A = some ⟨g, 0, none⟩ ∧ RowT w8 g rs) := hA
  clear hA
  go_wp2_with fail
  go_loopw [21] (fun iv wr => ∃ n : Nat, iv = .int .i64 (n : Int) ∧ n ≤ rs.length ∧ Below w8.heap.size w8 wr) (fun iv _ => rs.length - (intOf iv).toNat)
  case atStart => exact ⟨0, rfl, by omega, Below.refl _ _⟩
  case round =>
    obtain ⟨n, rfl, hn, hbl⟩ := hrel
    by_cases hlt : n < rs.length
    · obtain ⟨g, rfl, hrow⟩ : ∃ g, A = some ⟨g, 0, none⟩ ∧ RowT w8 g rs := by rcases HA.out with h | h; omega; exact h
      obtain ⟨e0, e1, e2, e3⟩ := (hrow.below hbl).at n hlt
      have hok := (hrow.below hbl).ok n hlt
      have hmx := HMJ.out _ (getD_mem hlt)
      generalize rs.getD n kd0 = z at *
      have HZ : Hid (z.Ok wr (fun b => b < wr.heap.size) ∧ may z.a z.l = true) := ⟨hok.1, hmx⟩
      clear hok hmx hrow
      have hni : (n : Int) < (rs.length : Int) := by omega
      have hn0 : (0 : Int) ≤ (n : Int) := by omega
      have hg0 := hbl.size
      have hbA : Below wr.heap.size wr (wr.alloc (.cells #[.int .i64 z.a.kind, .int .i64 z.a.n, .string z.a.s, .slice z.A (flen z.l) z.cap] 27)) := Below.alloc (Below.refl _ _) (Nat.le_refl _) _
      have hbx := Box4.new wr (.int .i64 z.a.kind) (.int .i64 z.a.n) (.string z.a.s) (.slice z.A (flen z.l) z.cap) 27
      have hbw8 : Below w.heap.size w (wr.alloc (.cells #[.int .i64 z.a.kind, .int .i64 z.a.n, .string z.a.s, .slice z.A (flen z.l) z.cap] 27)) := hb8.trans ((hbl.trans (hbA.mono hg0)).mono hb8.size)
      have kw := way_any ks v z.a z.l z.val (wr.alloc (.cells #[.int .i64 z.a.kind, .int .i64 z.a.n, .string z.a.s, .slice z.A (flen z.l) z.cap] 27)).heap.size _ (HV8.out.below (hbl.trans (hbA.mono hg0))) HM.out (by omega) (by omega) (Kd.rep (HZ.out.1.below hbA)) (Nat.le_refl _) HZ.out.2 (HTB.out.keep hbw8)
      have HBX : Hid (Box4 _ wr.heap.size (.int .i64 z.a.kind) (.int .i64 z.a.n) (.string z.a.s) (.slice z.A (flen z.l) z.cap)) := hbx
      have HB8A : Hid (Below w8.heap.size w8 _) := hbl.trans (hbA.mono hg0)
      have HZA : Hid (z.Ok _ (fun b => b < _)) := HZ.out.1.below hbA
      clear hbx hbA hbw8
      go_wp2_with fail
      refine kw.mono ?_
      rintro e w9 ⟨hb9, hway⟩
      have hB89 : Below w8.heap.size w8 w9 := below_tr HB8A.out hb9
      have hbx9 := HBX.out.below hb9
      have HB9 : Hid (Below w8.heap.size w8 w9 ∧ Below w.heap.size w w9) := ⟨hB89, hb8.trans (hB89.mono hb8.size)⟩
      have HZ9 : Hid (z.Ok w9 (fun b => b < w9.heap.size)) := HZA.out.below hb9
      have HSL9 : Hid (SlT w9 v ks) := HV8.out.below hB89
      have kc : ∀ W, Below w9.heap.size w9 W → Calls Tryz.prog 8 #[v, z.val] W fun e w' => CanEnd W (tms ks) z.a z.l e w' := fun W hW =>
        refCan_any ks v z.a z.l z.val W.heap.size W (HSL9.out.below hW) HM.out (by omega) (Kd.rep (HZ9.out.below hW)) (Nat.le_refl _) HZ.out.2
      obtain ⟨y0, y1, y2, y3, y4⟩ := hbx9
      clear e0 e1 e2 e3 hb9 hB89 HBX HZA HB8A kw
      rcases hway with ⟨hno, rfl⟩ | ⟨hyes, ps, MA, mc, qs, u, rfl, hmv, hpl, hrun, hlast, hnm, hso⟩
      · have HNO : Hid (¬ Knows (tms ks) z.a z.l) := hno
        clear hno
        go_wp2_with fail
        refine (kc _ (Below.refl _ _)).mono ?_
        intro e w10 hce
        obtain ⟨rfl, h10⟩ := canEnd_false HNO.out hce
        have HB10 : Hid (Below w8.heap.size w8 w10) := below_tr HB9.out.1 h10
        clear hce h10 kc y1 y2 y3 y4
        go_wp2_with fail
        go_roundw
        case rel => exact ⟨n + 1, by go_num, hlt, HB10.out⟩
        case measure => simp [intOf]; omega
      · have HY : Hid (Knows (tms ks) z.a z.l) := hyes
        have hpv := prov_true (t := (z.a, z.l)) hpl hrun hlast hnm
        have HPV : Hid (provB (tms ks) ps (z.a, z.l) = true) := hpv
        have HSO : Hid (∀ m ∈ ps, m.s.size ≤ maxLen) := fun m hm => by have := hso m hm; unfold maxLen; omega
        have k1 : ∀ W, Below w9.heap.size w9 W → Calls Tryz.prog 9 #[v, .slice MA ps.length mc, z.val] W fun e w' => e = .returned (.bool true) ∧ Below W.heap.size W w' := fun W hW => by
          have h := refProves_any ks v ps MA mc w9.heap.size W.heap.size z.a z.l z.val W (HSL9.out.below hW) (by omega) HM.out hW.size (hmv.below8 hW) (by omega) HSO.out (Kd.rep (HZ9.out.below hW)) (Nat.le_refl _) HZ.out.2
          rw [HPV.out] at h
          exact h
        have k2 : ∀ W, Below w9.heap.size w9 W → Calls Tryz.prog 10 #[v, .slice MA ps.length mc, z.val] W fun e w' => e = .returned (.bool true) ∧ Below W.heap.size W w' := fun W hW => by
          have h := proves_any ks v ps MA mc w9.heap.size W.heap.size z.a z.l z.val W (HSL9.out.below hW) (by omega) HM.out hW.size (hmv.below8 hW) (by omega) HSO.out (Kd.rep (HZ9.out.below hW)) (Nat.le_refl _) HZ.out.2
          rw [HPV.out] at h
          exact h
        have hpl' : ¬ (ps.length : Int) > 1024 := by omega
        have HBX9 : Hid (Box4 w9 wr.heap.size (.int .i64 z.a.kind) (.int .i64 z.a.n) (.string z.a.s) (.slice z.A (flen z.l) z.cap)) := ⟨y0, y1, y2, y3, y4⟩
        clear hyes hpv hso hmv hrun hlast hnm
        go_wp2_with fail
        refine (kc _ (Below.refl _ _)).mono ?_
        intro e w10 hce
        obtain ⟨rfl, h10⟩ := canEnd_true HY.out hce
        obtain ⟨z0, z1, z2, z3, z4⟩ := HBX9.out.below h10
        clear hce kc
        go_wp2_with fail
        refine (k1 _ h10).mono ?_
        rintro e w11 ⟨rfl, h11'⟩
        have h11 : Below w9.heap.size w9 w11 := below_tr h10 h11'
        obtain ⟨t0, t1, t2, t3, t4⟩ := HBX9.out.below h11
        clear z0 z1 z2 z3 z4 h11' h10 k1
        go_wp2_with fail
        refine (k2 _ h11).mono ?_
        rintro e w12 ⟨rfl, h12'⟩
        have HB12 : Hid (Below w8.heap.size w8 w12) := below_tr (below_tr HB9.out.1 h11) h12'
        clear h12' h11 k2 t0 t1 t2 t3 t4
        go_wp2_with fail
        go_roundw
        case rel => exact ⟨n + 1, by go_num, hlt, HB12.out⟩
        case measure => simp [intOf]; omega
    · obtain rfl : n = rs.length := by omega
      have hni : ¬ (rs.length : Int) < (rs.length : Int) := by omega
      go_wp2_with fail
      go_ret
      exact ⟨rfl, hb8.trans (hbl.mono hb8.size)⟩

end Go.Proofs.YtanpplgmdemlaaaGreatDoor
