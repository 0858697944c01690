import Derived.Test.YtldpnhlifgkmiaaDoorK9
import Derived.Test.YtldpnhlifgkmiaaDoorW32
import Derived.Test.YtldpnhlifgkmiaaDoorK1
import Derived.Test.YtldpnhlifgkmiaaDoorKP
namespace Go.Proofs.YtldpnhlifgkmiaaDoor
open Go.RowKit
set_option linter.unusedVariables false
set_option linter.unusedSimpArgs false

def OpRel (w : World) (ks : List Kd) (iv : Value) (wr : World) : Prop :=
  ∃ (n : Nat) (ks' : List Kd) (lv : Value), iv = .int .i64 (n : Int) ∧ n ≤ ks.length ∧ LSt wr w.heap.size lv ks' ∧ Below w.heap.size w wr ∧ tms ks' = learnL (ks.take n) [] ∧ ks'.length ≤ nodesK (ks.take n)

def OpEnd (w : World) (ks : List Kd) (e : Ending) (w' : World) : Prop :=
  ∃ (ks' : List Kd) (lv : Value), e = .returned (.tuple #[lv, .map (some (w.heap.size + 1))]) ∧ LSt w' w.heap.size lv ks' ∧ Below w.heap.size w w' ∧ tms ks' = learnL ks [] ∧ ks'.length ≤ nodesK ks

set_option maxRecDepth 100000 in
set_option maxHeartbeats 4000000 in
theorem opened_any (ks : List Kd) (v : Value) (w : World) (h : SlT w v ks) (hd : ∀ k ∈ ks, may k.a k.l = true ∧ (keyT k.a k.l).length ≤ 1000000 ∧ DMay k.l) (hN : nodesK ks ≤ 50000) (hl : ks.length ≤ 1000) (htab : Tab10 w.heap.size w) :
    Calls Tryd.prog 29 #[v] w fun e w' => OpEnd w ks e w' := by
  obtain ⟨A, c, rfl, hA⟩ := h.len
  have HA : Hid (ks.length = 0 ∨ ∃ g, A = some ⟨g, 0, none⟩ ∧ RowT w g ks) := hA
  have HD : Hid _ := hd
  have HTB : Hid (Tab10 w.heap.size w) := htab
  clear h hA hd htab
  have hmm : ∀ w : World, (Instr.makeMap 52 none).run Tryd.prog w = .ok (.map (some w.heap.size)) (w.alloc (.map #[] 0)) := fun w => run_makeMap _ w
  have hsf : ∀ (w : World) (p : Addr) (caps : Array Value), (store p (.func (.func 42) #[] caps)).run Tryd.prog w = stored Tryd.prog w p (.func (.func 42) #[] caps) .plain := fun w p caps => run_store _ _ _ _ _ rfl
  go_enter Tryd.func29, Tryd.ntmps29
  go_wp2_with fail
  obtain ⟨w0, hw0⟩ : ∃ W : World, W = (((w.alloc (.cells #[.slice none 0 0] 24)).alloc (.map #[] 0)).alloc (.cells #[.map (some (w.heap.size + 1))] 52)).alloc (.cells #[.func (.func 42) #[] #[.pointer (some ⟨w.heap.size + 1 + 1, 0, none⟩), .pointer (some ⟨w.heap.size, 0, none⟩), .pointer (some ⟨w.heap.size + 1 + 1 + 1, 0, none⟩)]] 67) := ⟨_, rfl⟩
  have hb0 : Below w.heap.size w w0 := by rw [hw0]; exact (by repeat (first | exact Below.refl _ _ | assumption | refine below_drewN ?_ _ | refine Below.drew ?_ | refine Below.alloc ?_ (by simp <;> omega) _ | refine Below.setCell ?_ (by simp <;> omega) _))
  have hst0 : LSt w0 w.heap.size (.slice none 0 0) [] := by
    refine ⟨by rw [hw0]; simp [go_sem], by rw [hw0]; simp [go_sem], by rw [hw0]; simp [go_sem], by rw [hw0]; simp [go_sem], ?_, World.ownsRow_nil _ _ _ _, by simp, by rw [hw0]; simp⟩
    have h1 := MapS.new (w.alloc (.cells #[.slice none 0 0] 24))
    rw [World.heap_size_alloc'] at h1
    refine h1.block ?_
    rw [hw0, Below.heap_alloc _ _ _ (by simp), Below.heap_alloc _ _ _ (by simp)]
  rw [← hw0]
  clear hw0
  go_loopw [13] (fun iv wr => OpRel w ks iv wr) (fun iv _ => ks.length - (intOf iv).toNat)
  case atStart => exact ⟨0, [], _, rfl, by omega, hst0, hb0, rfl, by simp [nodesK]⟩
  case round =>
    obtain ⟨n, ks', lv, rfl, hn, hst, hbl, ht, hc⟩ := hrel
    have HST : Hid (LSt wr w.heap.size lv ks') := hst
    have HT : Hid (tms ks' = learnL (ks.take n) []) := ht
    have HC : Hid (ks'.length ≤ nodesK (ks.take n)) := hc
    have hsr : w.heap.size + 4 ≤ wr.heap.size := hst.sz
    have hs3 : w.heap.size + 3 < wr.heap.size := by omega
    have c0 := hst.c0
    have c2 := hst.c2
    have c3 := hst.c3
    clear hst ht hc hst0 hb0
    by_cases hlt : n < ks.length
    · obtain ⟨g, rfl, hrow⟩ : ∃ g, A = some ⟨g, 0, none⟩ ∧ RowT w g ks := by rcases HA.out with h | h; omega; exact h
      have hr := hrow.below hbl
      obtain ⟨e0, e1, e2, e3⟩ := hr.at n hlt
      have hx1 : ks.getD n kd0 ∈ ks := getD_mem hlt
      have hok := (hrow.ok n hlt).1
      have hdx := HD.out _ hx1
      have htk : ks.take (n + 1) = ks.take n ++ [ks.getD n kd0] := by rw [List.take_succ_eq_append_getElem hlt]; simp [List.getD, List.getElem?_eq_getElem hlt]
      have HTK : Hid (ks.take (n + 1) = ks.take n ++ [ks.getD n kd0]) := htk
      have hnk : nodesK (ks.take (n + 1)) ≤ nodesK ks := by
        have h1 := nodesK_append (ks.take (n + 1)) (ks.drop (n + 1))
        rw [List.take_append_drop] at h1; omega
      rw [htk, nodesK_append] at hnk
      generalize ks.getD n kd0 = x at *
      have HX : Hid (x.Ok w (fun b => b < w.heap.size)) := hok
      have HDX : Hid (may x.a x.l = true ∧ (keyT x.a x.l).length ≤ 1000000 ∧ DMay x.l) := hdx
      have HNK : Hid (nodesK (ks.take n) + nodesK [x] ≤ nodesK ks) := hnk
      clear hok hdx hr hrow hx1 htk hnk
      have hni : (n : Int) < (ks.length : Int) := by omega
      have hn0 : (0 : Int) ≤ (n : Int) := by omega
      have hal : Below wr.heap.size wr (wr.alloc (.cells #[.int .i64 x.a.kind, .int .i64 x.a.n, .string x.a.s, .slice x.A (flen x.l) x.cap] 29)) := Below.alloc (Below.refl _ _) (Nat.le_refl _) _
      have VX : Hid (∀ W, Below w.heap.size w W → RepV W w.heap.size x.a x.l x.val) := fun W hW => RepV.keep (Nat.le_refl _) (fun b o hb => hW.cell hb) (Kd.rep HX.out)
      go_wp2_with fail
      refine (may_any x.a x.l _ _ (RepV.keep (w := wr.alloc _) (B := w.heap.size) (by simp; omega) (fun _ _ _ => rfl) (VX.out _ (hbl.trans (hal.mono (by omega)))))).mono ?_
      rintro e w1 ⟨rfl, ho1⟩
      rw [HDX.out.1]
      have hbr : Below wr.heap.size wr w1 := hal.trans (ho1.mono (by simp))
      have hbw1 : Below w.heap.size w w1 := hbl.trans (hbr.mono (by omega))
      obtain ⟨x0, x1, x2, x3, x4⟩ : Box4 w1 wr.heap.size (.int .i64 x.a.kind) (.int .i64 x.a.n) (.string x.a.s) (.slice x.A (flen x.l) x.cap) := (Box4.new wr _ _ _ _ _).below ho1
      have HS1 : Hid (LSt w1 w.heap.size lv ks') := HST.out.below hbr
      have c31 := HS1.out.c3
      have hv1 := HS1.out.own.lt
      clear e0 e1 e2 e3 c0 c2 c3 ho1
      go_wp2_with fail
      refine (learn_step x.a x.l (learn_all x.l) _ w.heap.size w1 lv ks' (VX.out w1 hbw1) HDX.out.1 HDX.out.2.1 HDX.out.2.2 HS1.out (by have h1 := HNK.out; have h2 := HC.out; simp only [nodesK] at h1; omega) (HTB.out.on hbw1)).mono ?_
      rintro e w2 ⟨lv2, ks2, rfl, hst2, hgr2, hle2, hc2⟩
      have HST2 : Hid (LSt w2 w.heap.size lv2 ks2) := hst2
      have HLE2 : Hid (tms ks2 = learnT x.a x.l (tms ks')) := hle2
      have hb2 : Below w.heap.size w1 w2 := hgr2.toBelow (fun q hq => by have := hv1 q hq; omega) hbw1.size
      clear hst2 hgr2 hle2 c31
      go_wp2_with fail
      go_roundw
      case rel =>
        refine ⟨n + 1, ks2, lv2, by go_num, hlt, HST2.out, hbw1.trans hb2, ?_, ?_⟩
        · rw [HTK.out, learnL_append, learnL, learnL, ← HT.out, HLE2.out]
        · rw [HTK.out, nodesK_append]; simp only [nodesK]; have := HC.out; omega
      case measure => simp [intOf]; omega
    · obtain rfl : n = ks.length := by omega
      have hni : decide ((ks.length : Int) < (ks.length : Int)) = false := by simp
      go_wp2_with fail
      go_quiet (fail)
      have hq := below_drewN (Below.refl wr.heap.size wr) nq
      generalize wr.drewN nq = wq at *
      go_wp2_with fail
      refine bodyPost_ret (v := .tuple #[lv, .map (some (w.heap.size + 1))]) (by simp [results, Tryd.results29]) rfl ?_
      refine ⟨ks', lv, rfl, HST.out.below hq, hbl.trans (hq.mono (by omega)), ?_, ?_⟩
      · have := HT.out; rwa [List.take_length] at this
      · have := HC.out; rwa [List.take_length] at this

end Go.Proofs.YtldpnhlifgkmiaaDoor

namespace Go.Proofs.YtldpnhlifgkmiaaDoor
open Go.RowKit
set_option linter.unusedVariables false
set_option linter.unusedSimpArgs false

theorem LSt.sl {w : World} {B : Nat} {lv : Value} {ks : List Kd} (h : LSt w B lv ks) : SlT w lv ks := by
  have hs := h.sz
  rcases h.own.2 with ⟨h1, h2⟩ | ⟨g, cap, cur, h3, h4, _, h5, h6, _⟩
  · exact .inl ⟨List.eq_nil_of_length_eq_zero h2, h1⟩
  · have hown := h.own
    rw [h3] at hown
    exact .inr ⟨g, cap, h3, (hown.lt g rfl).2, fun t ht => hown.cellAt t (by omega), fun k hk => ⟨(h.ok k hk).1.keep (fun b hb => by omega) (fun _ _ _ => rfl), may_ar _ _ (h.ok k hk).2⟩⟩

/-- What Open answers: what is learnt, sorted. -/
def OpenEnd (w : World) (ks : List Kd) (e : Ending) (w' : World) : Prop :=
  ∃ (ks' M : List Kd) (u : Value), e = .returned u ∧ tms ks' = learnL ks [] ∧ SlT w' u M ∧ (∀ k ∈ M, may k.a k.l = true) ∧ Rises M ∧ SameIn M ks' ∧ Covers ks' M ∧ M.length ≤ 1000 ∧ Below w.heap.size w w'

set_option maxRecDepth 20000 in
set_option maxHeartbeats 1000000 in
theorem open_any (ks : List Kd) (v : Value) (w : World) (h : SlT w v ks) (hd : ∀ k ∈ ks, may k.a k.l = true ∧ (keyT k.a k.l).length ≤ 1000000 ∧ DMay k.l) (hN : nodesK ks ≤ 1000) (hl : ks.length ≤ 1000) (htab : Tab10 w.heap.size w) :
    Calls Tryd.prog 12 #[v] w fun e w' => OpenEnd w ks e w' := by
  have HO : Hid (Calls Tryd.prog 29 #[v] w fun e w' => OpEnd w ks e w') := opened_any ks v w h hd (by omega) hl htab
  clear h hd htab
  go_enter Tryd.func12, Tryd.ntmps12
  go_wp2_with fail
  refine Calls.mono HO.out ?_
  rintro e w1 ⟨ks', lv, rfl, hst, hb1, ht, hc⟩
  have HST : Hid (LSt w1 w.heap.size lv ks') := hst
  have HT : Hid (tms ks' = learnL ks []) := ht
  clear hst ht
  go_wp2_with fail
  refine (sortK HST.out.sl (fun k hk => (HST.out.ok k hk).2) (by omega)).mono ?_
  rintro e w2 ⟨M, u, rfl, h1, h2, h3, h4, h5, h6, h7⟩
  have HE : Hid (OpenEnd w ks (.returned u) w2) := ⟨ks', M, u, rfl, HT.out, h1, h2, h3, h4, h5, h6, hb1.trans (h7.mono hb1.size)⟩
  clear h1 h2 h3 h4 h5 h6 h7
  go_wp2_with fail
  go_ret
  exact HE.out

end Go.Proofs.YtldpnhlifgkmiaaDoor

namespace Go.Proofs.YtldpnhlifgkmiaaDoor
open Go.RowKit
set_option linter.unusedVariables false
set_option linter.unusedSimpArgs false

theorem keyH_len {a : Nd} {len : Nat} (h : formedB a.kind a.n a.s len = true) : (keyH a).length ≤ 1100 := by
  have hl : a.s.data.toList.length = a.s.size := by rw [Array.length_toList]; rfl
  have hk : -9223372036854775808 ≤ a.kind ∧ a.kind ≤ 9223372036854775807 ∧ -9223372036854775808 ≤ a.n ∧ a.n ≤ 9223372036854775807 ∧ a.s.size ≤ 1024 := by
    rcases formed_cases h with ⟨h1, h2, h3, h4⟩ | ⟨h1, h2, h3, h4, h5⟩ | ⟨h1, h2, h3, h4⟩ | ⟨h1, h2, h3, h4⟩
    · exact ⟨by omega, by omega, by omega, by omega, h4⟩
    · exact ⟨by omega, by omega, by omega, by omega, by rw [h3]; decide⟩
    · exact ⟨by omega, by omega, by omega, by omega, by rw [h4]; decide⟩
    · exact ⟨by omega, by omega, by omega, by omega, by rw [h4]; decide⟩
  have e1 := Lib.itoa_length_le a.kind hk.1 hk.2.1
  have e2 := Lib.itoa_length_le a.n hk.2.2.1 hk.2.2.2.1
  have e3 := Lib.itoa_length_le (a.s.size : Int) (by omega) (by omega)
  unfold keyH numB
  split
  · simp only [List.length_append, List.length_cons, List.length_nil, hl]; omega
  · split
    · simp only [List.length_append, List.length_cons, List.length_nil]; omega
    · simp only [List.length_append, List.length_cons, List.length_nil]; omega

theorem mayF_key : ∀ (f : Fo) (d c : Int), (mayF f d c).1 = true → ((keyF f).length : Int) ≤ 1100 * ((mayF f d c).2 - c)
  | .nil, _, _, _ => by simp [keyF, mayF]
  | .node x y a l r, d, c, h => by
    rw [mayF] at h ⊢
    by_cases hm : mayB a (flen l) d c = true
    · rw [if_pos hm] at h ⊢
      by_cases hl : (mayF l (d + 1) (c + 1)).1 = true
      · rw [if_pos hl] at h ⊢
        have g := keyH_len (mayB_of hm).2.2
        have p2 := mayF_key l _ _ hl
        have q2 := mayF_key r _ _ h
        rw [keyF, List.length_append, List.length_append]
        simp only [Int.natCast_add]
        omega
      · rw [if_neg hl] at h; simp at h
    · rw [if_neg hm] at h; simp at h

theorem may_key {a : Nd} {l : Fo} (h : may a l = true) : (keyT a l).length ≤ 1000000 := by
  unfold may at h
  have hle := mayT_le a l 1 0 (by omega) h
  rw [mayT_node a l 1 0 0 0] at h hle
  have h3 := mayF_key _ _ _ h
  rw [keyF_node] at h3
  simp only [keyF, List.append_nil] at h3
  omega

theorem dmay_of : ∀ (f : Fo) (d c : Int), 1 ≤ d → 0 ≤ c → (mayF f d c).1 = true → DMay f
  | .nil, _, _, _, _, _ => trivial
  | .node x y a l r, d, c, hd, hc, h => by
    have h0 := h
    rw [mayF] at h
    by_cases hm : mayB a (flen l) d c = true
    · rw [if_pos hm] at h
      by_cases hl : (mayF l (d + 1) (c + 1)).1 = true
      · rw [if_pos hl] at h
        have hone : (mayF (.node 0 0 a l .nil) d c).1 = true := by rw [mayF, if_pos hm, if_pos hl]; rfl
        have hmay : may a l = true := by
          have := (mayF_mono (.node 0 0 a l .nil) d 1 c 0 hd hc hone).1
          unfold may
          rw [mayT_node a l 1 0 0 0]; exact this
        have hge := mayF_ge l (d + 1) (c + 1)
        exact ⟨hmay, may_key hmay, dmay_of l (d + 1) (c + 1) (by omega) (by omega) hl, dmay_of r d _ hd (by omega) h⟩
      · rw [if_neg hl] at h; simp at h
    · rw [if_neg hm] at h; simp at h

theorem may_dmay {a : Nd} {l : Fo} (h : may a l = true) : may a l = true ∧ (keyT a l).length ≤ 1000000 ∧ DMay l := by
  have h1 := h
  unfold may at h1
  rw [mayT_node a l 1 0 0 0] at h1
  exact ⟨h, may_key h, (dmay_of _ 1 0 (by omega) (by omega) h1).2.2.1⟩

end Go.Proofs.YtldpnhlifgkmiaaDoor
