import Derived.Test.YtanpplgmdemlaaaGreatDoorK9
import Derived.Test.YtanpplgmdemlaaaGreatDoorW32
import Derived.Test.YtanpplgmdemlaaaGreatDoorK1
import Derived.Test.YtanpplgmdemlaaaGreatDoorKQ
import Derived.Test.YtanpplgmdemlaaaGreatDoorK16
import Derived.Test.YtanpplgmdemlaaaGreatDoorW20
import Derived.Test.YtanpplgmdemlaaaGreatDoorW6
namespace Go.Proofs.YtanpplgmdemlaaaGreatDoor
open Go.RowKit
set_option linter.unusedVariables false
set_option linter.unusedSimpArgs false

def OpRel (w : World) (ks : List Kd) (iv : Value) (wr : World) : Prop :=
  ∃ (n : Nat) (ks' : List Kd) (lv : Value), iv = .int .i64 (n : Int) ∧ n ≤ ks.length ∧ LSt wr w.heap.size lv ks' ∧ Below w.heap.size w wr ∧ tms ks' = learnL (ks.take n) [] ∧ ks'.length ≤ nodesK (ks.take n)

def OpEnd (w : World) (ks : List Kd) (e : Ending) (w' : World) : Prop :=
  ∃ (ks' : List Kd) (lv : Value), e = .returned (.tuple #[lv, .map (some (w.heap.size + 1))]) ∧ LSt w' w.heap.size lv ks' ∧ Below w.heap.size w w' ∧ tms ks' = learnL ks [] ∧ ks'.length ≤ nodesK ks

set_option maxRecDepth 100000 in
set_option maxHeartbeats 4000000 in
theorem opened_any (ks : List Kd) (v : Value) (w : World) (h : SlT w v ks) (hd : ∀ k ∈ ks, may k.a k.l = true ∧ (keyT k.a k.l).length ≤ 1000000 ∧ DMay k.l) (hN : nodesK ks ≤ 50000) (hl : ks.length ≤ 1000) (htab : Tab10 w.heap.size w) :
    Calls Tryz.prog 32 #[v] w fun e w' => OpEnd w ks e w' := by
  obtain ⟨A, c, rfl, hA⟩ := h.len
  have HA : Hid (ks.length = 0 ∨ ∃ g, A = some ⟨g, 0, none⟩ ∧ RowT w g ks) := hA
  have HD : Hid _ := hd
  have HTB : Hid (Tab10 w.heap.size w) := htab
  clear h hA hd htab
  have hmm : ∀ w : World, (Instr.makeMap 65 none).run Tryz.prog w = .ok (.map (some w.heap.size)) (w.alloc (.map #[] 0)) := fun w => run_makeMap _ w
  have hsf : ∀ (w : World) (p : Addr) (caps : Array Value), (store p (.func (.func 56) #[] caps)).run Tryz.prog w = stored Tryz.prog w p (.func (.func 56) #[] caps) .plain := fun w p caps => run_store _ _ _ _ _ rfl
  go_enter Tryz.func32, Tryz.ntmps32
  go_wp2_with fail
  obtain ⟨w0, hw0⟩ : ∃ W : World, W = (((w.alloc (.cells #[.slice none 0 0] 24)).alloc (.map #[] 0)).alloc (.cells #[.map (some (w.heap.size + 1))] 65)).alloc (.cells #[.func (.func 56) #[] #[.pointer (some ⟨w.heap.size + 1 + 1, 0, none⟩), .pointer (some ⟨w.heap.size, 0, none⟩), .pointer (some ⟨w.heap.size + 1 + 1 + 1, 0, none⟩)]] 95) := ⟨_, rfl⟩
  have hb0 : Below w.heap.size w w0 := by rw [hw0]; exact (by repeat (first | exact Below.refl _ _ | assumption | refine below_drewN ?_ _ | refine Below.drew ?_ | refine Below.alloc ?_ (by simp <;> omega) _ | refine Below.setCell ?_ (by simp <;> omega) _))
  have hst0 : LSt w0 w.heap.size (.slice none 0 0) [] := by
    refine ⟨by rw [hw0]; simp [go_sem], by rw [hw0]; simp [go_sem], by rw [hw0]; simp [go_sem], by rw [hw0]; simp [go_sem], ?_, World.ownsRow_nil _ _ _ _, by simp, by rw [hw0]; simp⟩
    have h1 := MapS.new (w.alloc (.cells #[.slice none 0 0] 24))
    rw [World.heap_size_alloc'] at h1
    refine h1.block ?_
    rw [hw0, Below.heap_alloc _ _ _ (by simp), Below.heap_alloc _ _ _ (by simp)]
  rw [← hw0]
  clear hw0
  go_loopw [13] (fun iv wr => OpRel w ks iv wr) (fun iv _ => ks.length - (intOf iv).toNat)
  case atStart => exact ⟨0, [], _, rfl, by omega, hst0, hb0, rfl, by simp [nodesK]⟩
  case round =>
    obtain ⟨n, ks', lv, rfl, hn, hst, hbl, ht, hc⟩ := hrel
    have HST : Hid (LSt wr w.heap.size lv ks') := hst
    have HT : Hid (tms ks' = learnL (ks.take n) []) := ht
    have HC : Hid (ks'.length ≤ nodesK (ks.take n)) := hc
    have hsr : w.heap.size + 4 ≤ wr.heap.size := hst.sz
    have hs3 : w.heap.size + 3 < wr.heap.size := by omega
    have c0 := hst.c0
    have c2 := hst.c2
    have c3 := hst.c3
    clear hst ht hc hst0 hb0
    by_cases hlt : n < ks.length
    · obtain ⟨g, rfl, hrow⟩ : ∃ g, A = some ⟨g, 0, none⟩ ∧ RowT w g ks := by rcases HA.out with h | h; omega; exact h
      have hr := hrow.below hbl
      obtain ⟨e0, e1, e2, e3⟩ := hr.at n hlt
      have hx1 : ks.getD n kd0 ∈ ks := getD_mem hlt
      have hok := (hrow.ok n hlt).1
      have hdx := HD.out _ hx1
      have htk : ks.take (n + 1) = ks.take n ++ [ks.getD n kd0] := by rw [List.take_succ_eq_append_getElem hlt]; simp [List.getD, List.getElem?_eq_getElem hlt]
      have HTK : Hid (ks.take (n + 1) = ks.take n ++ [ks.getD n kd0]) := htk
      have hnk : nodesK (ks.take (n + 1)) ≤ nodesK ks := by
        have h1 := nodesK_append (ks.take (n + 1)) (ks.drop (n + 1))
        rw [List.take_append_drop] at h1; omega
      rw [htk, nodesK_append] at hnk
      generalize ks.getD n kd0 = x at *
      have HX : Hid (x.Ok w (fun b => b < w.heap.size)) := hok
      have HDX : Hid (may x.a x.l = true ∧ (keyT x.a x.l).length ≤ 1000000 ∧ DMay x.l) := hdx
      have HNK : Hid (nodesK (ks.take n) + nodesK [x] ≤ nodesK ks) := hnk
      clear hok hdx hr hrow hx1 htk hnk
      have hni : (n : Int) < (ks.length : Int) := by omega
      have hn0 : (0 : Int) ≤ (n : Int) := by omega
      have hal : Below wr.heap.size wr (wr.alloc (.cells #[.int .i64 x.a.kind, .int .i64 x.a.n, .string x.a.s, .slice x.A (flen x.l) x.cap] 27)) := Below.alloc (Below.refl _ _) (Nat.le_refl _) _
      have VX : Hid (∀ W, Below w.heap.size w W → RepV W w.heap.size x.a x.l x.val) := fun W hW => RepV.keep (Nat.le_refl _) (fun b o hb => hW.cell hb) (Kd.rep HX.out)
      go_wp2_with fail
      refine (may_any x.a x.l _ _ (RepV.keep (w := wr.alloc _) (B := w.heap.size) (by simp; omega) (fun _ _ _ => rfl) (VX.out _ (hbl.trans (hal.mono (by omega)))))).mono ?_
      rintro e w1 ⟨rfl, ho1⟩
      rw [HDX.out.1]
      have hbr : Below wr.heap.size wr w1 := hal.trans (ho1.mono (by simp))
      have hbw1 : Below w.heap.size w w1 := hbl.trans (hbr.mono (by omega))
      obtain ⟨x0, x1, x2, x3, x4⟩ : Box4 w1 wr.heap.size (.int .i64 x.a.kind) (.int .i64 x.a.n) (.string x.a.s) (.slice x.A (flen x.l) x.cap) := (Box4.new wr _ _ _ _ _).below ho1
      have HS1 : Hid (LSt w1 w.heap.size lv ks') := HST.out.below hbr
      have c31 := HS1.out.c3
      have hv1 := HS1.out.own.lt
      clear e0 e1 e2 e3 c0 c2 c3 ho1
      go_wp2_with fail
      refine (learn_step x.a x.l (learn_all x.l) _ w.heap.size w1 lv ks' (VX.out w1 hbw1) HDX.out.1 HDX.out.2.1 HDX.out.2.2 HS1.out (by have h1 := HNK.out; have h2 := HC.out; simp only [nodesK] at h1; omega) (HTB.out.on hbw1)).mono ?_
      rintro e w2 ⟨lv2, ks2, rfl, hst2, hgr2, hle2, hc2⟩
      have HST2 : Hid (LSt w2 w.heap.size lv2 ks2) := hst2
      have HLE2 : Hid (tms ks2 = learnT x.a x.l (tms ks')) := hle2
      have hb2 : Below w.heap.size w1 w2 := hgr2.toBelow (fun q hq => by have := hv1 q hq; omega) hbw1.size
      clear hst2 hgr2 hle2 c31
      go_wp2_with fail
      go_roundw
      case rel =>
        refine ⟨n + 1, ks2, lv2, by go_num, hlt, HST2.out, hbw1.trans hb2, ?_, ?_⟩
        · rw [HTK.out, learnL_append, learnL, learnL, ← HT.out, HLE2.out]
        · rw [HTK.out, nodesK_append]; simp only [nodesK]; have := HC.out; omega
      case measure => simp [intOf]; omega
    · obtain rfl : n = ks.length := by omega
      have hni : decide ((ks.length : Int) < (ks.length : Int)) = false := by simp
      go_wp2_with fail
      go_quiet (fail)
      have hq := below_drewN (Below.refl wr.heap.size wr) nq
      generalize wr.drewN nq = wq at *
      go_wp2_with fail
      refine bodyPost_ret (v := .tuple #[lv, .map (some (w.heap.size + 1))]) (by simp [results, Tryz.results32]) rfl ?_
      refine ⟨ks', lv, rfl, HST.out.below hq, hbl.trans (hq.mono (by omega)), ?_, ?_⟩
      · have := HT.out; rwa [List.take_length] at this
      · have := HC.out; rwa [List.take_length] at this

end Go.Proofs.YtanpplgmdemlaaaGreatDoor

namespace Go.Proofs.YtanpplgmdemlaaaGreatDoor
open Go.RowKit
set_option linter.unusedVariables false
set_option linter.unusedSimpArgs false

theorem LSt.sl {w : World} {B : Nat} {lv : Value} {ks : List Kd} (h : LSt w B lv ks) : SlT w lv ks := by
  have hs := h.sz
  rcases h.own.2 with ⟨h1, h2⟩ | ⟨g, cap, cur, h3, h4, _, h5, h6, _⟩
  · exact .inl ⟨List.eq_nil_of_length_eq_zero h2, h1⟩
  · have hown := h.own
    rw [h3] at hown
    exact .inr ⟨g, cap, h3, (hown.lt g rfl).2, fun t ht => hown.cellAt t (by omega), fun k hk => ⟨(h.ok k hk).1.keep (fun b hb => by omega) (fun _ _ _ => rfl), may_ar _ _ (h.ok k hk).2⟩⟩

/-- What Open answers: what is learnt, sorted. -/
def OpenEnd (w : World) (ks : List Kd) (e : Ending) (w' : World) : Prop :=
  ∃ (ks' M : List Kd) (u : Value), e = .returned u ∧ tms ks' = learnL ks [] ∧ SlT w' u M ∧ (∀ k ∈ M, may k.a k.l = true) ∧ Rises M ∧ SameIn M ks' ∧ Covers ks' M ∧ M.length ≤ 1000 ∧ Below w.heap.size w w'

end Go.Proofs.YtanpplgmdemlaaaGreatDoor

namespace Go.Proofs.YtanpplgmdemlaaaGreatDoor
open Go.RowKit
set_option linter.unusedVariables false
set_option linter.unusedSimpArgs false

theorem keyH_len {a : Nd} {len : Nat} (h : formedB a.kind a.n a.s len = true) : (keyH a).length ≤ 1100 := by
  have hl : a.s.data.toList.length = a.s.size := by rw [Array.length_toList]; rfl
  have hk : -9223372036854775808 ≤ a.kind ∧ a.kind ≤ 9223372036854775807 ∧ -9223372036854775808 ≤ a.n ∧ a.n ≤ 9223372036854775807 ∧ a.s.size ≤ 1024 := by
    rcases formed_cases h with ⟨h1, h2, h3, h4⟩ | ⟨h1, h2, h3, h4, h5⟩ | ⟨h1, h2, h3, h4⟩ | ⟨h1, h2, h3, h4⟩
    · exact ⟨by omega, by omega, by omega, by omega, h4⟩
    · exact ⟨by omega, by omega, by omega, by omega, by rw [h3]; decide⟩
    · exact ⟨by omega, by omega, by omega, by omega, by rw [h4]; decide⟩
    · exact ⟨by omega, by omega, by omega, by omega, by rw [h4]; decide⟩
  have e1 := Lib.itoa_length_le a.kind hk.1 hk.2.1
  have e2 := Lib.itoa_length_le a.n hk.2.2.1 hk.2.2.2.1
  have e3 := Lib.itoa_length_le (a.s.size : Int) (by omega) (by omega)
  unfold keyH numB
  split
  · simp only [List.length_append, List.length_cons, List.length_nil, hl]; omega
  · split
    · simp only [List.length_append, List.length_cons, List.length_nil]; omega
    · simp only [List.length_append, List.length_cons, List.length_nil]; omega

theorem mayF_key : ∀ (f : Fo) (d c : Int), (mayF f d c).1 = true → ((keyF f).length : Int) ≤ 1100 * ((mayF f d c).2 - c)
  | .nil, _, _, _ => by simp [keyF, mayF]
  | .node x y a l r, d, c, h => by
    rw [mayF] at h ⊢
    by_cases hm : mayB a (flen l) d c = true
    · rw [if_pos hm] at h ⊢
      by_cases hl : (mayF l (d + 1) (c + 1)).1 = true
      · rw [if_pos hl] at h ⊢
        have g := keyH_len (mayB_of hm).2.2
        have p2 := mayF_key l _ _ hl
        have q2 := mayF_key r _ _ h
        rw [keyF, List.length_append, List.length_append]
        simp only [Int.natCast_add]
        omega
      · rw [if_neg hl] at h; simp at h
    · rw [if_neg hm] at h; simp at h

theorem may_key {a : Nd} {l : Fo} (h : may a l = true) : (keyT a l).length ≤ 1000000 := by
  unfold may at h
  have hle := mayT_le a l 1 0 (by omega) h
  rw [mayT_node a l 1 0 0 0] at h hle
  have h3 := mayF_key _ _ _ h
  rw [keyF_node] at h3
  simp only [keyF, List.append_nil] at h3
  omega

theorem dmay_of : ∀ (f : Fo) (d c : Int), 1 ≤ d → 0 ≤ c → (mayF f d c).1 = true → DMay f
  | .nil, _, _, _, _, _ => trivial
  | .node x y a l r, d, c, hd, hc, h => by
    have h0 := h
    rw [mayF] at h
    by_cases hm : mayB a (flen l) d c = true
    · rw [if_pos hm] at h
      by_cases hl : (mayF l (d + 1) (c + 1)).1 = true
      · rw [if_pos hl] at h
        have hone : (mayF (.node 0 0 a l .nil) d c).1 = true := by rw [mayF, if_pos hm, if_pos hl]; rfl
        have hmay : may a l = true := by
          have := (mayF_mono (.node 0 0 a l .nil) d 1 c 0 hd hc hone).1
          unfold may
          rw [mayT_node a l 1 0 0 0]; exact this
        have hge := mayF_ge l (d + 1) (c + 1)
        exact ⟨hmay, may_key hmay, dmay_of l (d + 1) (c + 1) (by omega) (by omega) hl, dmay_of r d _ hd (by omega) h⟩
      · rw [if_neg hl] at h; simp at h
    · rw [if_neg hm] at h; simp at h

theorem may_dmay {a : Nd} {l : Fo} (h : may a l = true) : may a l = true ∧ (keyT a l).length ≤ 1000000 ∧ DMay l := by
  have h1 := h
  unfold may at h1
  rw [mayT_node a l 1 0 0 0] at h1
  exact ⟨h, may_key h, (dmay_of _ 1 0 (by omega) (by omega) h1).2.2.1⟩

end Go.Proofs.YtanpplgmdemlaaaGreatDoor

namespace Go.Proofs.YtanpplgmdemlaaaGreatDoor
open Go.RowKit
set_option linter.unusedVariables false
set_option linter.unusedSimpArgs false

/-- Those whose keys are marked. -/
def inS (S : List ByteArray) (a : Nd) (l : Fo) : Bool := decide (keyT a l ∈ S.map fun s => s.data.toList)
theorem inS_iff (S : List ByteArray) (a : Nd) (l : Fo) : inS S a l = true ↔ keyS a l ∈ S := by
  unfold inS
  rw [decide_eq_true_eq, List.mem_map]
  constructor
  · rintro ⟨s, hs, e⟩
    have : keyS a l = s := by unfold keyS; rw [← e]
    rw [this]; exact hs
  · exact fun h => ⟨_, h, rfl⟩


/-- Where 'can' stands: known's variable in q1, the map in r, can's variable in q2. -/
structure CSt (w : World) (q1 q2 r : Nat) (S : List ByteArray) : Prop where
  c1 : w.cell? ⟨q1, 0, none⟩ = some (.map (some r))
  c2 : w.cell? ⟨q2, 0, none⟩ = some (.func (.func 33) #[] #[.pointer (some ⟨q1, 0, none⟩), .pointer (some ⟨q2, 0, none⟩)])
  ms : MapS w r S
  l1 : q1 < w.heap.size
  l2 : q2 < w.heap.size

theorem CSt.below {w w' : World} {q1 q2 r : Nat} {S : List ByteArray} (h : CSt w q1 q2 r S) (hb : Below w.heap.size w w') : CSt w' q1 q2 r S := by
  have h1 := h.l1
  have h2 := h.l2
  have h3 := hb.size
  exact ⟨by rw [hb.cell (by simpa using h1)]; exact h.c1, by rw [hb.cell (by simpa using h2)]; exact h.c2, h.ms.block (hb.block _ h.ms.lt), by omega, by omega⟩

def CanOk (a : Nd) (l : Fo) : Prop := ∀ (v : Value) (B : Nat) (w : World) (q1 q2 r : Nat) (S : List ByteArray), RepV w B a l v → B ≤ w.heap.size → may a l = true → CSt w q1 q2 r S → Tab10 B w →
    Calls Tryz.prog 33 #[v, .pointer (some ⟨q1, 0, none⟩), .pointer (some ⟨q2, 0, none⟩)] w fun e w' => e = .returned (.bool (canT (inS S) a l)) ∧ Below w.heap.size w w'

def CanRel (w : World) (B : Nat) (q1 q2 r : Nat) (S : List ByteArray) (l : Fo) (b o : Nat) (iv : Value) (wr : World) : Prop :=
  ∃ (i : Nat) (g : Fo), iv = .int .i64 (i : Int) ∧ i + flen g = flen l ∧ AllF CanOk g ∧ DMay g ∧ RepF wr B g b (o + i * 4) ∧ Below w.heap.size w wr ∧ canF (inS S) l = canF (inS S) g

set_option maxRecDepth 100000 in
set_option maxHeartbeats 4000000 in
theorem can_step (a : Nd) (l : Fo) (ih : AllF CanOk l) : CanOk a l := by
  rintro v B w q1 q2 r S ⟨hf, A, cap, b, o, rfl, hn, hA, hr⟩ hB hm hst htab
  have HA : Hid (flen l = 0 ∨ A = some ⟨b, o, none⟩) := hA
  have HR : Hid (RepF w B l b o) := hr
  have HM : Hid (may a l = true) := hm
  have HST : Hid (CSt w q1 q2 r S) := hst
  have HTB : Hid (Tab10 B w) := htab
  clear hA hr hm hst htab
  have hbA : Below w.heap.size w (w.alloc (.cells #[.int .i64 a.kind, .int .i64 a.n, .string a.s, .slice A (flen l) cap] 27)) := Below.alloc (Below.refl _ _) (Nat.le_refl _) _
  go_enter Tryz.func33, Tryz.ntmps33
  by_cases h1 : a.kind = 1
  · have k1 : (a.kind == 1) = true := by simp [h1]
    have HC : Hid (canT (inS S) a l = true) := by show canT (inS S) a l = true; rw [canT, k1]; rfl
    clear h1
    go_wp2_with fail
    go_quiet (fail)
    have hq := below_drewN hbA nq
    generalize (World.alloc w _).drewN nq = wq at *
    go_wp2_with fail
    go_ret
    exact ⟨ret_bool HC.out.symm, hq⟩
  · have k1 : (a.kind == 1) = false := by simp [h1]
    go_wp2_with fail
    obtain ⟨W, hW⟩ : ∃ W : World, W = w.alloc (.cells #[.int .i64 a.kind, .int .i64 a.n, .string a.s, .slice A (flen l) cap] 27) := ⟨_, rfl⟩
    have hbx : Box4 W w.heap.size (.int .i64 a.kind) (.int .i64 a.n) (.string a.s) (.slice A (flen l) cap) := by rw [hW]; exact Box4.new w _ _ _ _ _
    rw [← hW] at hbA ⊢
    clear hW
    have hsW := hbA.size
    obtain ⟨K, hK⟩ : ∃ K : ByteArray, keyS a l = K := ⟨_, rfl⟩
    obtain ⟨bb, hbb⟩ : ∃ bb : Bool, inS S a l = bb := ⟨_, rfl⟩
    have HBB : Hid (inS S a l = bb) := hbb
    have hbb2 : bb = true ↔ K ∈ S := by rw [← hbb, ← hK]; exact inS_iff S a l
    have HKEY : Hid (∀ W', Below W.heap.size W W' → Calls Tryz.prog 34 #[.agg #[.int .i64 a.kind, .int .i64 a.n, .string a.s, .slice A (flen l) cap]] W' fun e w' => e = .returned (.string K) ∧ Below W'.heap.size W' w') := by
      intro W' hb
      rw [← hK]
      refine key_any a l _ W' ⟨hf, A, cap, b, o, rfl, hn, HA.out, ?_⟩ (may_key HM.out) (fun w' hb' => HTB.out w' (((hbA.mono hB).trans (hb.mono (by omega))).trans (hb'.mono (by have := hb.size; omega))))
      exact RepF.keep (by have := hb.size; omega) (fun q j hq => ((hbA.mono hB).trans (hb.mono (by omega))).cell hq) HR.out
    have HCS : Hid (∀ W', Below W.heap.size W W' → Box4 W' w.heap.size (.int .i64 a.kind) (.int .i64 a.n) (.string a.s) (.slice A (flen l) cap) ∧ W'.cell? ⟨q1, 0, none⟩ = some (.map (some r)) ∧ (Instr.lookup 65 (.map (some r)) (.string K) false).run Tryz.prog W' = .ok (.bool bb) W' ∧ Below W.heap.size W W') := by
      intro W' hb
      have h2 := (HST.out.below hbA).below hb
      exact ⟨hbx.below hb, h2.c1, run_known h2.ms K bb hbb2, hb⟩
    clear hK hbb hbb2 hbx
    go_region_held3 (fun w' => Box4 w' w.heap.size (.int .i64 a.kind) (.int .i64 a.n) (.string a.s) (.slice A (flen l) cap) ∧ w'.cell? ⟨q1, 0, none⟩ = some (.map (some r)) ∧ (Instr.lookup 65 (.map (some r)) (.string K) false).run Tryz.prog w' = .ok (.bool bb) w' ∧ Below W.heap.size W w')
      (first | exact HCS.out _ (Below.drew (Below.refl _ _)) | exact HCS.out _ ((Below.drew (Below.refl _ _)).trans hb1) | assumption)
      (first | (go_at_call 34; refine (HKEY.out _ (Below.drew (Below.refl _ _))).mono ?_; rintro e w1 ⟨rfl, hb1⟩))
    have hbw : Below w.heap.size w w1 := hbA.trans (((Below.drew (Below.refl _ _)).trans hb1).mono hsW)
    have hx4 := (HCS.out _ ((Below.drew (Below.refl _ _)).trans hb1)).1
    obtain ⟨x0, x1, x2, x3, x4⟩ := hx4
    cases bb with
    | true =>
      have HC : Hid (canT (inS S) a l = true) := by show canT (inS S) a l = true; rw [canT, HBB.out]; simp
      go_wp2_with fail
      go_ret
      exact ⟨ret_bool HC.out.symm, hbw⟩
    | false =>
      by_cases h2 : a.kind = 2
      · have k2 : (a.kind == 2) = true := by simp [h2]
        have HC : Hid (canT (inS S) a l = false) := by show canT (inS S) a l = false; rw [canT, HBB.out, k1, k2]; rfl
        go_wp2_with fail
        go_ret
        exact ⟨ret_bool HC.out.symm, hbw⟩
      · have k2 : (a.kind == 2) = false := by simp [h2]
        have HC : Hid (canT (inS S) a l = canF (inS S) l) := by show canT (inS S) a l = _; rw [canT, HBB.out, k1, k2]; simp
        clear h1 h2 HCS HKEY
        go_wp2_with fail
        go_loopw [22] (fun iv wr => CanRel w1 B q1 q2 r S l b o iv wr) (fun iv _ => flen l - (intOf iv).toNat)
        case atStart => exact ⟨0, l, rfl, by simp, ih, (may_dmay HM.out).2.2, by rw [show o + 0 * 4 = o from by omega]; exact HR.out.below (hbw.mono hB), Below.refl _ _, rfl⟩
        case round =>
          obtain ⟨i, g, rfl, hi, hg1, hdg, hrg, hbl, hcf⟩ := hrel
          have HCF : Hid (canF (inS S) l = canF (inS S) g) := hcf
          have HS1 : Hid (CSt wr q1 q2 r S) := (HST.out.below hbw).below hbl
          have c2 := HS1.out.c2
          have l2 := HS1.out.l2
          have hszr := hbl.size
          have hs1 := hbw.size
          clear hcf
          cases g with
          | nil =>
            simp only [flen] at hi
            go_wp2_with fail
            go_ret
            exact ⟨ret_bool (by rw [HC.out, HCF.out, canF]), hbw.trans (hbl.mono hs1)⟩
          | node b1 o1 a1 l1 r1 =>
            obtain ⟨hb1', hf1, e0, e1, e2, ⟨A1, cap1, b2, o2, e3, hn1, hA1, hl1⟩, hr1⟩ := hrg
            obtain ⟨hw1, hgr1⟩ := hg1
            obtain ⟨dm1, dm2, dm3, dm4⟩ := hdg
            simp only [flen] at hi
            obtain rfl : A = some ⟨b, o, none⟩ := by rcases HA.out with h | h; omega; exact h
            have HA1 : Hid (flen l1 = 0 ∨ A1 = some ⟨b2, o2, none⟩) := hA1
            have HD1 : Hid (may a1 l1 = true ∧ DMay r1) := ⟨dm1, dm4⟩
            have hal : Below wr.heap.size wr (wr.alloc (.cells #[.int .i64 a1.kind, .int .i64 a1.n, .string a1.s, .slice A1 (flen l1) cap1] 27)) := Below.alloc (Below.refl _ _) (Nat.le_refl _) _
            clear hA1 dm1 dm3 dm4 dm2
            go_wp2_with fail
            refine (hw1 _ B _ q1 q2 r S ⟨hf1, A1, cap1, b2, o2, rfl, hn1, HA1.out, hl1.below (hal.mono (by omega))⟩ (by simp; omega) HD1.out.1 (HS1.out.below hal) (HTB.out.on ((hbw.mono hB).trans ((hbl.mono (by omega)).trans (hal.mono (by omega)))))).mono ?_
            rintro e w8 ⟨rfl, hb8⟩
            have hB8 : Below wr.heap.size wr w8 := hal.trans (hb8.mono (by simp))
            have hr2 : RepF w8 B r1 b (o + i * 4 + 4) := RepF.keep (Nat.le_refl _) (fun q j hq => hB8.cell (by simp; omega)) hr1
            have HCN : Hid (canF (inS S) l = (canT (inS S) a1 l1 && canF (inS S) r1)) := by show canF (inS S) l = _; rw [HCF.out, canF_node]
            clear e0 e1 e2 e3 c2
            obtain ⟨cc, hcc⟩ : ∃ cc : Bool, canT (inS S) a1 l1 = cc := ⟨_, rfl⟩
            have HCC : Hid (canT (inS S) a1 l1 = cc) := hcc
            rw [hcc]
            clear hcc
            cases cc with
            | false =>
              go_wp2_with fail
              go_ret
              exact ⟨ret_bool (by rw [HC.out, HCN.out, HCC.out]; rfl), hbw.trans ((hbl.trans (hB8.mono hszr)).mono hs1)⟩
            | true =>
              go_wp2_with fail
              go_roundw
              case rel =>
                exact ⟨i + 1, r1, by go_num, by omega, hgr1, HD1.out.2, by rw [show o + (i + 1) * 4 = o + i * 4 + 4 from by omega]; exact hr2, hbl.trans (hB8.mono hszr), by rw [HCN.out, HCC.out]; rfl⟩
              case measure => simp [intOf]; omega

theorem can_all : ∀ f : Fo, AllF CanOk f
  | .nil => trivial
  | .node _ _ a l r => ⟨can_step a l (can_all l), can_all r⟩

end Go.Proofs.YtanpplgmdemlaaaGreatDoor

namespace Go.Proofs.YtanpplgmdemlaaaGreatDoor
open Go.RowKit
set_option linter.unusedVariables false
set_option linter.unusedSimpArgs false

theorem inS_knows {ks : List Kd} {L : List Kd} (hk : ∀ k ∈ ks, may k.a k.l = true) (ht : tms L = learnL ks []) (a : Nd) (l : Fo) (hm : may a l = true) : canT (inS (L.map fun k => keyS k.a k.l)) a l = true ↔ Knows (tms ks) a l := by
  have hs := learnL_spec ks [] hk (fun x hx => by cases hx)
  have hc := hs.clos
  refine canT_iff (fun a l hm => ?_) hm
  rw [inS_iff, mem_keys, ht, key_in hs.may hm]
  exact hc _

def CanEnd (w : World) (us : List (Nd × Fo)) (a : Nd) (l : Fo) (e : Ending) (w' : World) : Prop := ∃ b : Bool, e = .returned (.bool b) ∧ (b = true ↔ Knows us a l) ∧ Below w.heap.size w w'

set_option maxRecDepth 100000 in
set_option maxHeartbeats 4000000 in
theorem knowCan_any (ks : List Kd) (v : Value) (a : Nd) (l : Fo) (u : Value) (B : Nat) (w : World) (h : SlT w v ks) (hk : ∀ k ∈ ks, may k.a k.l = true) (hN : nodesK ks ≤ 50000) (hl : ks.length ≤ 1000) (hu : RepV w B a l u) (hB : B ≤ w.heap.size) (hm : may a l = true) (htab : Tab10 w.heap.size w) :
    Calls Tryz.prog 18 #[v, u] w fun e w' => CanEnd w (tms ks) a l e w' := by
  have HSL : Hid (SlT w v ks) := h
  have HK : Hid (∀ k ∈ ks, may k.a k.l = true) := hk
  have HU : Hid (RepV w B a l u) := hu
  have HTB : Hid (Tab10 w.heap.size w) := htab
  have HM : Hid (may a l = true) := hm
  obtain ⟨hf, A, cap, b, o, rfl, hn, hA, hr⟩ := hu
  obtain ⟨OA, oc, rfl, _⟩ := h.len
  clear h hk hA hr htab hm
  have hbA : Below w.heap.size w (w.alloc (.cells #[.int .i64 a.kind, .int .i64 a.n, .string a.s, .slice A (flen l) cap] 27)) := Below.alloc (Below.refl _ _) (Nat.le_refl _) _
  have hsf : ∀ (w : World) (p : Addr) (caps : Array Value), (store p (.func (.func 33) #[] caps)).run Tryz.prog w = stored Tryz.prog w p (.func (.func 33) #[] caps) .plain := fun w p caps => run_store _ _ _ _ _ rfl
  go_enter Tryz.func18, Tryz.ntmps18
  go_wp2_with fail
  refine (may_any a l _ _ (RepV.keep (w := w.alloc _) (B := B) (by simp; omega) (fun _ _ _ => rfl) (HU.out.below (hbA.mono hB)))).mono ?_
  rintro e w1 ⟨rfl, ho1⟩
  rw [HM.out]
  have hb1 : Below w.heap.size w w1 := hbA.trans (ho1.mono (by simp))
  obtain ⟨x0, x1, x2, x3, x4⟩ : Box4 w1 w.heap.size (.int .i64 a.kind) (.int .i64 a.n) (.string a.s) (.slice A (flen l) cap) := (Box4.new w _ _ _ _ _).below ho1
  clear ho1
  go_wp2_with fail
  refine (opened_any ks _ w1 (HSL.out.below hb1) (fun k hk => may_dmay (HK.out k hk)) hN hl (fun w' hb => HTB.out w' (hb1.trans (hb.mono hb1.size)))).mono ?_
  rintro e w2 ⟨ks', lv, rfl, hst, hb2, ht, hc⟩
  have HST : Hid (LSt w2 w1.heap.size lv ks') := hst
  have HT : Hid (tms ks' = learnL ks []) := ht
  have hbw2 : Below w.heap.size w w2 := hb1.trans (hb2.mono hb1.size)
  have hs2 := hb2.size
  have hs1 := hb1.size
  have y1 : w2.cell? ⟨w.heap.size, 0, none⟩ = some (.int .i64 a.kind) := (hb2.cell (by simpa using x0)).trans x1
  have y2 : w2.cell? ⟨w.heap.size, 1, none⟩ = some (.int .i64 a.n) := (hb2.cell (by simpa using x0)).trans x2
  have y3 : w2.cell? ⟨w.heap.size, 2, none⟩ = some (.string a.s) := (hb2.cell (by simpa using x0)).trans x3
  have y4 : w2.cell? ⟨w.heap.size, 3, none⟩ = some (.slice A (flen l) cap) := (hb2.cell (by simpa using x0)).trans x4
  have hx2 : w.heap.size < w2.heap.size := by omega
  clear hst ht x1 x2 x3 x4
  go_wp2_with fail
  obtain ⟨W, hW⟩ : ∃ W : World, W = (w2.alloc (.cells #[.map (some (w1.heap.size + 1))] 65)).alloc (.cells #[.func (.func 33) #[] #[.pointer (some ⟨w2.heap.size, 0, none⟩), .pointer (some ⟨w2.heap.size + 1, 0, none⟩)]] 49) := ⟨_, rfl⟩
  have hb3 : Below w2.heap.size w2 W := by rw [hW]; exact Below.alloc (Below.alloc (Below.refl _ _) (Nat.le_refl _) _) (by simp) _
  have hcs : CSt W w2.heap.size (w2.heap.size + 1) (w1.heap.size + 1) (ks'.map fun k => keyS k.a k.l) := by
    refine ⟨by rw [hW]; simp [go_sem], by rw [hW]; simp [go_sem], HST.out.ms.block (hb3.block _ HST.out.ms.lt), by rw [hW]; simp; omega, by rw [hW]; simp⟩
  rw [← hW]
  clear hW
  have hbW : Below w.heap.size w W := hbw2.trans (hb3.mono (by omega))
  have HCS : Hid (CSt W w2.heap.size (w2.heap.size + 1) (w1.heap.size + 1) (ks'.map fun k => keyS k.a k.l)) := hcs
  clear hcs
  refine (can_step a l (can_all l) _ w.heap.size W _ _ _ _ (RepV.keep hB (fun q j hq => (hbW.mono hB).cell hq) HU.out) hbW.size HM.out HCS.out (HTB.out.on hbW)).mono ?_
  rintro e w4 ⟨rfl, hb4⟩
  have HE : Hid (CanEnd w (tms ks) a l (.returned (.bool (canT (inS (ks'.map fun k => keyS k.a k.l)) a l))) w4) := ⟨_, rfl, inS_knows HK.out HT.out a l HM.out, hbW.trans (hb4.mono hbW.size)⟩
  clear HCS
  generalize canT (inS (ks'.map fun k => keyS k.a k.l)) a l = bb at *
  go_wp2_with fail
  go_ret
  exact HE.out

end Go.Proofs.YtanpplgmdemlaaaGreatDoor

namespace Go.Proofs.YtanpplgmdemlaaaGreatDoor
open Go.RowKit
set_option linter.unusedVariables false
set_option linter.unusedSimpArgs false

theorem among_knows {us : List (Nd × Fo)} {L : List Kd} (hc : Clos us (tms L)) (a : Nd) (l : Fo) (hm : may a l = true) : canT (amongB L) a l = true ↔ Knows us a l := by
  refine canT_iff (fun a l hm => ?_) hm
  rw [among_iff]
  exact hc _

set_option maxRecDepth 100000 in
set_option maxHeartbeats 4000000 in
theorem refCan_any (ks : List Kd) (v : Value) (a : Nd) (l : Fo) (u : Value) (B : Nat) (w : World) (h : SlT w v ks) (hk : ∀ k ∈ ks, may k.a k.l = true) (hN : nodesK ks ≤ 1000) (hu : RepV w B a l u) (hB : B ≤ w.heap.size) (hm : may a l = true) :
    Calls Tryz.prog 8 #[v, u] w fun e w' => CanEnd w (tms ks) a l e w' := by
  have HSL : Hid (SlT w v ks) := h
  have HK : Hid (∀ k ∈ ks, may k.a k.l = true) := hk
  have HU : Hid (RepV w B a l u) := hu
  have HM : Hid (may a l = true) := hm
  obtain ⟨hf, A, cap, b, o, rfl, hn, hA, hr⟩ := hu
  obtain ⟨OA, oc, rfl, _⟩ := h.len
  clear h hk hA hr hm
  go_enter Tryz.func8, Tryz.ntmps8
  go_wp2_with fail
  obtain ⟨W, hW⟩ : ∃ W : World, W = w.alloc (.cells #[.int .i64 a.kind, .int .i64 a.n, .string a.s, .slice A (flen l) cap] 27) := ⟨_, rfl⟩
  have hbx : Box4 W w.heap.size (.int .i64 a.kind) (.int .i64 a.n) (.string a.s) (.slice A (flen l) cap) := by rw [hW]; exact Box4.new w _ _ _ _ _
  have hbA : Below w.heap.size w W := by rw [hW]; exact Below.alloc (Below.refl _ _) (Nat.le_refl _) _
  rw [← hW]
  clear hW
  have HBX : Hid (Box4 W w.heap.size (.int .i64 a.kind) (.int .i64 a.n) (.string a.s) (.slice A (flen l) cap)) := hbx
  have hsW := hbA.size
  clear hbx
  have HOP : Hid (∀ W', Below W.heap.size W W' → Calls Tryz.prog 24 #[.slice OA ks.length oc] W' fun e w' => ∃ (L : List Kd) (u : Value), e = .returned u ∧ SlT w' u L ∧ L.length ≤ 1000 ∧ Clos (tms ks) (tms L) ∧ Below W.heap.size W w') := by
    intro W' hb
    refine (refOpen_any ks _ W' (HSL.out.below (hbA.trans (hb.mono hsW))) HK.out hN).mono ?_
    rintro e w' ⟨L, u, h1, h2, h3, h4, h5, h6, h7⟩
    exact ⟨L, u, h1, h2, by omega, h5, hb.trans (h7.mono hb.size)⟩
  have HMD : Hid (∀ (L : List Kd) (u : Value) (W' : World), Below W.heap.size W W' → SlT W' u L → L.length ≤ 1000 → Clos (tms ks) (tms L) → Calls Tryz.prog 23 #[u, .agg #[.int .i64 a.kind, .int .i64 a.n, .string a.s, .slice A (flen l) cap]] W' fun e w' => CanEnd w (tms ks) a l e w' ∧ Below W.heap.size W w') := by
    intro L u W' hb hsl hl hc
    have hb' := hbA.trans (hb.mono hsW)
    refine (made_step L u hl a l (made_all L u hl l) _ B W' hsl (HU.out.below (hb'.mono hB)) (by have := hb'.size; omega) (may_ar _ _ HM.out).1 (may_ar _ _ HM.out).2).mono ?_
    rintro e w' ⟨rfl, hb2⟩
    exact ⟨⟨_, rfl, among_knows hc a l HM.out, hb'.trans (hb2.mono hb'.size)⟩, hb.trans (hb2.mono hb.size)⟩
  go_region_held3 (fun w' => Box4 w' w.heap.size (.int .i64 a.kind) (.int .i64 a.n) (.string a.s) (.slice A (flen l) cap) ∧ Below W.heap.size W w')
    (first | exact ⟨HBX.out.below (Below.drew (Below.refl _ _)), Below.drew (Below.refl _ _)⟩ | exact ⟨HBX.out.below hb2, hb2⟩ | exact ⟨HBX.out.below hb1, hb1⟩ | assumption)
    (first
      | (go_at_call 24; refine (HOP.out _ (And.right (by assumption))).mono ?_; rintro e w1 ⟨L, u1, rfl, hsl1, hl1, hc1, hb1⟩)
      | (go_at_call 23; refine (HMD.out L u1 _ (And.right (by assumption)) hsl1 hl1 hc1).mono ?_; rintro e w2 ⟨⟨bb, rfl, hbb, hbw2⟩, hb2⟩))
  have HE : Hid (CanEnd w (tms ks) a l (.returned (.bool bb)) w2) := ⟨bb, rfl, hbb, hbw2⟩
  clear hbb
  go_wp2_with fail
  go_ret
  exact HE.out

/-- The same of two that say the same. -/
theorem CanEnd.same {w w1 w' w1' : World} {us : List (Nd × Fo)} {a : Nd} {l : Fo} {b c : Bool} (hb : b = true ↔ Knows us a l) (hc : c = true ↔ Knows us a l) : b = c := by
  cases b <;> cases c <;> simp_all

end Go.Proofs.YtanpplgmdemlaaaGreatDoor

namespace Go.Proofs.YtanpplgmdemlaaaGreatDoor
open Go.RowKit
set_option linter.unusedVariables false
set_option linter.unusedSimpArgs false

theorem rises_nodup {M : List Kd} (h : Rises M) : ((tms M).map nm).Nodup := by
  unfold tms
  rw [List.map_map, List.Nodup, List.pairwise_map]
  refine List.Pairwise.imp ?_ h
  intro j k hjk e
  have := nm_iff.1 e
  unfold ordK at hjk
  omega

theorem sameIn_inL {A B : List Kd} (h : Covers A B) {t : Nd × Fo} : InL (tms A) t → InL (tms B) t := by
  rintro ⟨x, hx, rfl⟩
  rw [tms, List.mem_map] at hx
  obtain ⟨k, hk, rfl⟩ := hx
  obtain ⟨y, hy, e⟩ := h k hk
  exact ⟨(y.a, y.l), List.mem_map_of_mem hy, (nm_iff.2 e).symm⟩

theorem inL_covers {us : List (Nd × Fo)} {A B : List Kd} (hA : Clos us (tms A)) (hB : Clos us (tms B)) : Covers A B := by
  intro x hx
  obtain ⟨y, hy, e⟩ := (hB _).2 ((hA (nm (x.a, x.l))).1 ⟨(x.a, x.l), List.mem_map_of_mem hx, rfl⟩)
  rw [tms, List.mem_map] at hy
  obtain ⟨k, hk, rfl⟩ := hy
  exact ⟨k, hk, nm_iff.1 e.symm⟩

/-- What Open answers is all that follows. -/
theorem OpenEnd.clos {w : World} {ks : List Kd} (hk : ∀ k ∈ ks, may k.a k.l = true) {e : Ending} {w' : World} (h : OpenEnd w ks e w') :
    ∃ (M : List Kd) (u : Value), e = .returned u ∧ SlT w' u M ∧ (∀ k ∈ M, may k.a k.l = true) ∧ Rises M ∧ Clos (tms ks) (tms M) ∧ M.length ≤ 1000 ∧ M.length ≤ (learnL ks []).length ∧ Below w.heap.size w w' := by
  obtain ⟨ks', M, u, rfl, ht, h1, h2, h3, h4, h5, h6, h7⟩ := h
  have hs := learnL_spec ks [] hk (fun x hx => by cases hx)
  have hc := hs.clos
  rw [← ht] at hc
  refine ⟨M, u, rfl, h1, h2, h3, fun t => ⟨fun h => (hc t).1 (sameIn_inL h4.covers h), fun h => sameIn_inL h5 ((hc t).2 h)⟩, h6, ?_, h7⟩
  have := rises_len ks' M h3 h4.covers
  rw [← ht]; unfold tms; rw [List.length_map]; exact this

theorem open_unique {us : List (Nd × Fo)} {A B : List Kd} (hA : Rises A) (hB : Rises B) (cA : Clos us (tms A)) (cB : Clos us (tms B)) : A.length = B.length ∧ ∀ i, i < A.length → ordK (A.getD i kd0) (B.getD i kd0) = 0 :=
  sortOf_unique A B hA hB (inL_covers cA cB) (inL_covers cB cA)

theorem mayF_nodes : ∀ (f : Fo) (d c : Int), (mayF f d c).1 = true → (mayF f d c).2 = c + nodesF f
  | .nil, _, _, _ => by simp [mayF, nodesF]
  | .node x y a l r, d, c, h => by
    rw [mayF] at h ⊢
    by_cases hm : mayB a (flen l) d c = true
    · rw [if_pos hm] at h ⊢
      by_cases hl : (mayF l (d + 1) (c + 1)).1 = true
      · rw [if_pos hl] at h ⊢
        rw [mayF_nodes r _ _ h, mayF_nodes l _ _ hl, nodesF]
        omega
      · rw [if_neg hl] at h; simp at h
    · rw [if_neg hm] at h; simp at h
theorem may_nodes {a : Nd} {l : Fo} (h : may a l = true) : 1 + nodesF l ≤ 64 := by
  unfold may at h
  have hle := mayT_le a l 1 0 (by omega) h
  rw [mayT_node a l 1 0 0 0] at h hle
  rw [mayF_nodes _ _ _ h, nodesF, nodesF] at hle
  omega
theorem nodesK_le : ∀ (ks : List Kd), (∀ k ∈ ks, may k.a k.l = true) → nodesK ks ≤ 64 * ks.length
  | [], _ => by simp [nodesK]
  | k :: r, h => by
    have h1 := may_nodes (h k (by simp))
    have h2 := nodesK_le r (fun j hj => h j (by simp [hj]))
    simp only [nodesK, List.length_cons]; omega

/-- A list of one. -/
theorem sl_one (w : World) (k : Kd) (hk : k.Ok w (fun b => b < w.heap.size) ∧ k.Ar) : SlT (w.alloc (.cells #[.int .i64 k.a.kind, .int .i64 k.a.n, .string k.a.s, .slice k.A (flen k.l) k.cap] 27)) (.slice (some ⟨w.heap.size, 0, none⟩) 1 1) [k] := by
  refine .inr ⟨w.heap.size, 1, rfl, by simp, fun t ht => ?_, fun j hj => ?_⟩
  · have hc : ∀ o, (w.alloc (.cells #[.int .i64 k.a.kind, .int .i64 k.a.n, .string k.a.s, .slice k.A (flen k.l) k.cap] 27)).cell? ⟨w.heap.size, o, none⟩ = (#[.int .i64 k.a.kind, .int .i64 k.a.n, .string k.a.s, .slice k.A (flen k.l) k.cap] : Array Value)[o]? := fun o => by simp [go_sem]
    rw [hc]
    simp [rowOf, Kd.cells]
  · simp only [List.mem_singleton] at hj
    subst hj
    exact ⟨hk.1.below (Below.alloc (Below.refl _ _) (Nat.le_refl _) _), hk.2⟩

theorem sl_none (w : World) : SlT w (.slice none 0 0) [] := .inl ⟨rfl, rfl⟩

def kA : Nd := ⟨1, 0, ⟨#[97]⟩⟩
def kN : Nd := ⟨2, 1, ⟨#[]⟩⟩
def kP : Nd := ⟨7, 0, ⟨#[]⟩⟩
def kH : Nd := ⟨3, 0, ⟨#[]⟩⟩
def fPa : Fo := .node 0 0 kN .nil (.node 0 0 kA .nil .nil)
def fNo : Fo := .node 0 0 kN .nil .nil
theorem may_kA : may kA .nil = true := by simp [may, mayT, mayB, mayF, formedB, kidsOf, flen, kA, empB]; decide
theorem may_kN : may kN .nil = true := by simp [may, mayT, mayB, mayF, formedB, kidsOf, flen, kN, empB]
theorem may_kP : may kP fPa = true := by simp [may, mayT, mayB, mayF, formedB, kidsOf, flen, kP, fPa, kN, kA, empB]; decide
theorem may_kH : may kH fNo = true := by simp [may, mayT, mayB, mayF, formedB, kidsOf, flen, kH, fNo, kN, empB]

/-- Nothing follows from nothing. -/
theorem fol_none {t : Nd × Fo} (h : Fol (InL []) t) : False := h (fun _ => False) (fun _ _ h _ => h) (by rintro t ⟨x, hx, _⟩; cases hx)
theorem knows_kA : Knows (tms []) kA .nil := .inl rfl
theorem knows_kN : ¬ Knows (tms []) kN .nil := by
  rintro (h | h | h)
  · exact absurd h (by decide)
  · exact fol_none h
  · exact h.1 rfl
theorem nodes3 {M : List Kd} (hr : Rises M) (hc : Clos [(kP, fPa)] (tms M)) : M.length = 3 := by
  have h1 : M.length ≤ 3 := by
    have := nodup_len (tms M) [(kP, fPa), (kN, .nil), (kA, .nil)] (rises_nodup hr) (fun x hx => by
      refine (hc (nm x)).1 ⟨x, hx, rfl⟩ (InL [(kP, fPa), (kN, .nil), (kA, .nil)]) ?_ ?_
      · rintro t u ⟨y, hy, rfl⟩ hu
        rw [outs_nm, List.mem_map] at hu
        obtain ⟨v, hv, rfl⟩ := hu
        simp only [List.mem_cons, List.not_mem_nil, or_false] at hy
        rcases hy with rfl | rfl | rfl
        · simp only [outs, skipOf, kP, fPa, kidL, if_true, List.drop_zero, List.mem_cons, List.not_mem_nil, or_false] at hv
          rcases hv with rfl | rfl
          · exact ⟨(kN, .nil), by simp, rfl⟩
          · exact ⟨(kA, .nil), by simp, rfl⟩
        · simp [outs, kidL] at hv
        · simp [outs, kidL] at hv
      · rintro t ⟨y, hy, rfl⟩
        simp only [List.mem_singleton] at hy
        exact ⟨y, by simp [hy], rfl⟩)
    simpa [tms] using this
  have h2 : 3 ≤ M.length := by
    have hP : Fol (InL [(kP, fPa)]) (nm (kP, fPa)) := Fol.base ⟨(kP, fPa), by simp, rfl⟩
    have hN : Fol (InL [(kP, fPa)]) (nm (kN, .nil)) := hP.out (by rw [outs_nm]; simp [outs, skipOf, kP, fPa, kidL])
    have hA : Fol (InL [(kP, fPa)]) (nm (kA, .nil)) := hP.out (by rw [outs_nm]; simp [outs, skipOf, kP, fPa, kidL])
    have := nodup_len [(kP, fPa), (kN, .nil), (kA, .nil)] (tms M) (by simp [nm, kP, kN, kA]) (fun x hx => by
      simp only [List.mem_cons, List.not_mem_nil, or_false] at hx
      rcases hx with rfl | rfl | rfl
      · exact (hc _).2 hP
      · exact (hc _).2 hN
      · exact (hc _).2 hA)
    simpa [tms] using this
  omega
theorem knows_kH {us vs : List (Nd × Fo)} (hc : Clos vs us) (hv : vs = [(kP, fPa)]) : Knows us kH fNo := by
  subst hv
  have hP : Fol (InL [(kP, fPa)]) (nm (kP, fPa)) := Fol.base ⟨(kP, fPa), by simp, rfl⟩
  have hN : Fol (InL [(kP, fPa)]) (nm (kN, .nil)) := hP.out (by rw [outs_nm]; simp [outs, skipOf, kP, fPa, kidL])
  have : Fol (InL us) (nm (kN, .nil)) := Fol.base ((hc _).2 hN)
  exact .inr (.inr ⟨by decide, .inr (.inl this), trivial⟩)
theorem knows_no : ¬ Knows [(kH, fNo)] kN .nil := by
  rintro (h | h | h)
  · exact absurd h (by decide)
  · have := h (fun t => t = nm (kH, fNo)) (by
      rintro t u rfl hu
      rw [outs_nm] at hu
      simp [outs, skipOf, kH, fNo, kidL] at hu) (by
      rintro t ⟨x, hx, rfl⟩
      simp only [List.mem_singleton] at hx
      rw [hx])
    simp [nm, kN, kH] at this
  · exact h.1 rfl

end Go.Proofs.YtanpplgmdemlaaaGreatDoor

namespace Go.Proofs.YtanpplgmdemlaaaGreatDoor
open Go.RowKit
set_option linter.unusedVariables false
set_option linter.unusedSimpArgs false

theorem fit_kA : kA.Fit := ⟨by simp [kA], by simp [kA], by simp [kA], by simp [kA], by decide⟩
theorem fit_kN : kN.Fit := ⟨by simp [kN], by simp [kN], by simp [kN], by simp [kN], by decide⟩
theorem fit_kP : kP.Fit := ⟨by simp [kP], by simp [kP], by simp [kP], by simp [kP], by decide⟩
theorem fit_kH : kH.Fit := ⟨by simp [kH], by simp [kH], by simp [kH], by simp [kH], by decide⟩
theorem rep_kA (w : World) (B : Nat) : RepV w B kA .nil (.agg #[.int .i64 1, .int .i64 0, .string ⟨#[97]⟩, .slice none 0 0]) := ⟨fit_kA, none, 0, 0, 0, rfl, ⟨Nat.zero_le _, Nat.zero_le _⟩, .inl rfl, trivial⟩
theorem rep_kN (w : World) (B : Nat) : RepV w B kN .nil (.agg #[.int .i64 2, .int .i64 1, .string ⟨#[]⟩, .slice none 0 0]) := ⟨fit_kN, none, 0, 0, 0, rfl, ⟨Nat.zero_le _, Nat.zero_le _⟩, .inl rfl, trivial⟩

/-- The row of the pair's kids in block g. -/
theorem rep_pair (w : World) : RepG (w.alloc (.cells #[.int .i64 2, .int .i64 1, .string ⟨#[]⟩, .slice none 0 0, .int .i64 1, .int .i64 0, .string ⟨#[97]⟩, .slice none 0 0] 27)) (fun b => b < w.heap.size + 1) fPa w.heap.size 0 := by
  have c : ∀ o, (w.alloc (.cells #[.int .i64 2, .int .i64 1, .string ⟨#[]⟩, .slice none 0 0, .int .i64 1, .int .i64 0, .string ⟨#[97]⟩, .slice none 0 0] 27)).cell? ⟨w.heap.size, o, none⟩ = (#[.int .i64 2, .int .i64 1, .string ⟨#[]⟩, .slice none 0 0, .int .i64 1, .int .i64 0, .string ⟨#[97]⟩, .slice none 0 0] : Array Value)[o]? := fun o => by simp [go_sem]
  exact ⟨by omega, fit_kN, by rw [c]; rfl, by rw [c]; rfl, by rw [c]; rfl, ⟨none, 0, 0, 0, by rw [c]; rfl, ⟨Nat.zero_le _, Nat.zero_le _⟩, .inl rfl, trivial⟩, by omega, fit_kA, by rw [c]; rfl, by rw [c]; rfl, by rw [c]; rfl, ⟨none, 0, 0, 0, by rw [c]; rfl, ⟨Nat.zero_le _, Nat.zero_le _⟩, .inl rfl, trivial⟩, trivial⟩
theorem rep_hash (w : World) : RepG (w.alloc (.cells #[.int .i64 2, .int .i64 1, .string ⟨#[]⟩, .slice none 0 0] 27)) (fun b => b < w.heap.size + 1) fNo w.heap.size 0 := by
  have c : ∀ o, (w.alloc (.cells #[.int .i64 2, .int .i64 1, .string ⟨#[]⟩, .slice none 0 0] 27)).cell? ⟨w.heap.size, o, none⟩ = (#[.int .i64 2, .int .i64 1, .string ⟨#[]⟩, .slice none 0 0] : Array Value)[o]? := fun o => by simp [go_sem]
  exact ⟨by omega, fit_kN, by rw [c]; rfl, by rw [c]; rfl, by rw [c]; rfl, ⟨none, 0, 0, 0, by rw [c]; rfl, ⟨Nat.zero_le _, Nat.zero_le _⟩, .inl rfl, trivial⟩, trivial⟩

def kdP (g : Nat) : Kd := ⟨0, 0, kP, fPa, some ⟨g, 0, none⟩, 2, g, 0⟩
def kdH (g : Nat) : Kd := ⟨0, 0, kH, fNo, some ⟨g, 0, none⟩, 1, g, 0⟩
theorem ok_kdP {w w' : World} (h : Below (w.heap.size + 1) (w.alloc (.cells #[.int .i64 2, .int .i64 1, .string ⟨#[]⟩, .slice none 0 0, .int .i64 1, .int .i64 0, .string ⟨#[97]⟩, .slice none 0 0] 27)) w') : (kdP w.heap.size).Ok w' (fun b => b < w'.heap.size) ∧ (kdP w.heap.size).Ar := by
  have hs := h.size
  rw [World.heap_size_alloc'] at hs
  exact ⟨⟨fit_kP, by simp [kdP, fPa, flen], .inr rfl, RepG.keep (fun b hb => by omega) (fun b o hb => h.cell (by simpa using hb)) (rep_pair w)⟩, may_ar _ _ may_kP⟩
theorem ok_kdH {w w' : World} (h : Below (w.heap.size + 1) (w.alloc (.cells #[.int .i64 2, .int .i64 1, .string ⟨#[]⟩, .slice none 0 0] 27)) w') : (kdH w.heap.size).Ok w' (fun b => b < w'.heap.size) ∧ (kdH w.heap.size).Ar := by
  have hs := h.size
  rw [World.heap_size_alloc'] at hs
  exact ⟨⟨fit_kH, by simp [kdH, fNo, flen], .inr rfl, RepG.keep (fun b hb => by omega) (fun b o hb => h.cell (by simpa using hb)) (rep_hash w)⟩, may_ar _ _ may_kH⟩

theorem canEnd_true {w : World} {us : List (Nd × Fo)} {a : Nd} {l : Fo} (h : Knows us a l) {e : Ending} {w' : World} (hc : CanEnd w us a l e w') : e = .returned (.bool true) ∧ Below w.heap.size w w' := by
  obtain ⟨b, rfl, hb, h2⟩ := hc
  exact ⟨by rw [hb.2 h], h2⟩
theorem canEnd_false {w : World} {us : List (Nd × Fo)} {a : Nd} {l : Fo} (h : ¬ Knows us a l) {e : Ending} {w' : World} (hc : CanEnd w us a l e w') : e = .returned (.bool false) ∧ Below w.heap.size w w' := by
  obtain ⟨b, rfl, hb, h2⟩ := hc
  cases b with
  | true => exact absurd (hb.1 rfl) h
  | false => exact ⟨rfl, h2⟩

theorem refN_lit (n : Int) (w : World) : Calls Tryz.prog 12 #[.int .i64 n] w fun e w' => e = .returned (.agg #[.int .i64 2, .int .i64 n, .string ⟨#[]⟩, .slice none 0 0]) ∧ Below w.heap.size w w' := refN_any n w
theorem refT_lit (k : Int) (A : Option Addr) (len cap : Nat) (w : World) : Calls Tryz.prog 14 #[.int .i64 k, .slice A len cap] w fun e w' => e = .returned (.agg #[.int .i64 k, .int .i64 0, .string ⟨#[]⟩, .slice A len cap]) ∧ Below w.heap.size w w' := refT_any k A len cap w

theorem Tab10.keep {w w' : World} (h : Tab10 w.heap.size w) (hb : Below w.heap.size w w') : Tab10 w'.heap.size w' := fun W hW => h W (hb.trans (hW.mono hb.size))

end Go.Proofs.YtanpplgmdemlaaaGreatDoor

namespace Go.Proofs.YtanpplgmdemlaaaGreatDoor
open Go.RowKit
set_option linter.unusedVariables false
set_option linter.unusedSimpArgs false

/-- A term by itself, as one of a row. -/
theorem RepVG.kd {w : World} {S : Nat → Prop} {a : Nd} {l : Fo} {v : Value} (h : RepVG w S a l v) : ∃ k : Kd, k.a = a ∧ k.l = l ∧ v = k.val ∧ k.Ok w S := by
  obtain ⟨hf, A, cap, b, o, hv, hn, hA, hl⟩ := h
  exact ⟨⟨0, 0, a, l, A, cap, b, o⟩, rfl, rfl, hv, hf, hn, hA, hl⟩

theorem bool_same {b c : Bool} {P : Prop} (hb : b = true ↔ P) (hc : c = true ↔ P) : b = c := by
  cases b with
  | true => exact (hc.2 (hb.1 rfl)).symm
  | false => cases c with
    | true => exact absurd (hb.2 (hc.1 rfl)) (by decide)
    | false => rfl

/-- A row of one's own with one more. -/
theorem sl_append {B : Nat} {w6 w7 w8 : World} {v v8 : Value} {ks : List Kd} {kd : Kd} (ht : TermsAt w6 B v ks) (hb7 : Below w6.heap.size w6 w7) (hkd : kd.Ok w7 (fun b => w6.heap.size ≤ b ∧ b < w7.heap.size)) (hmk : may kd.a kd.l = true)
    (hown : w8.ownsRow B 27 4 v8 (ks.length + 1) (rowOf ks ++ kd.cells)) (hgrow : (w7.alloc (.cells #[.int .i64 kd.a.kind, .int .i64 kd.a.n, .string kd.a.s, .slice kd.A (flen kd.l) kd.cap] 27)).grownBy w8 v.ownBlock) :
    SlT w8 v8 (ks ++ [kd]) ∧ ∀ k ∈ ks ++ [kd], may k.a k.l = true := by
  have hs := hgrow.size
  rw [World.heap_size_alloc'] at hs
  have hs7 := hb7.size
  have hc : ∀ b o, b < w7.heap.size → v.ownBlock ≠ some b → w8.cell? ⟨b, o, none⟩ = w7.cell? ⟨b, o, none⟩ := fun b o hb hv => by
    rw [World.cell?_of_block (w := w7.alloc _) (a := ⟨b, o, none⟩) (hgrow.block b (by rw [World.heap_size_alloc']; omega) (fun e => hv e.symm))]
    exact World.cell?_of_block (Below.heap_alloc _ _ _ hb)
  have hm : ∀ k ∈ ks ++ [kd], may k.a k.l = true := fun k hk => by
    rcases List.mem_append.1 hk with hk | hk
    · exact (ht.2 k hk).2
    · simp only [List.mem_singleton] at hk; rw [hk]; exact hmk
  refine ⟨?_, hm⟩
  have hok : ∀ k ∈ ks ++ [kd], k.Ok w8 (fun b => b < w8.heap.size) ∧ k.Ar := fun k hk => by
    refine ⟨?_, may_ar _ _ (hm k hk)⟩
    rcases List.mem_append.1 hk with hk | hk
    · exact (ht.2 k hk).1.keep (fun b hb => by have := hb.2.1; omega) (fun b o hb => (hc b o (by have := hb.2.1; omega) hb.2.2).trans (hb7.cell (by simpa using hb.2.1)))
    · simp only [List.mem_singleton] at hk
      subst hk
      exact hkd.keep (fun b hb => by omega) (fun b o hb => hc b o hb.2 (fun e => by have := ht.1.lt b e; omega))
  have hr : rowOf (ks ++ [kd]) = rowOf ks ++ kd.cells := by rw [rowOf_append]; simp [rowOf]
  rcases hown.2 with ⟨h1, h2⟩ | ⟨g, cap, cur, h3, h4, _, h5, h6, _⟩
  · omega
  · rw [h3] at hown
    refine .inr ⟨g, cap, by rw [h3, List.length_append]; rfl, (hown.lt g rfl).2, fun t ht => ?_, hok⟩
    rw [hr]
    exact hown.cellAt t (by simp at ht; omega)

end Go.Proofs.YtanpplgmdemlaaaGreatDoor
