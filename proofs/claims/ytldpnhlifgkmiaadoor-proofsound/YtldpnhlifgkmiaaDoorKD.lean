import Derived.Test.YtldpnhlifgkmiaaDoorKC
import Derived.Test.YtldpnhlifgkmiaaDoorKP
namespace Go.Proofs.YtldpnhlifgkmiaaDoor
open Go.RowKit
set_option linter.unusedVariables false
set_option linter.unusedSimpArgs false

/-- Those whose keys are marked. -/
def inS (S : List ByteArray) (a : Nd) (l : Fo) : Bool := decide (keyT a l ∈ S.map fun s => s.data.toList)
theorem inS_iff (S : List ByteArray) (a : Nd) (l : Fo) : inS S a l = true ↔ keyS a l ∈ S := by
  unfold inS
  rw [decide_eq_true_eq, List.mem_map]
  constructor
  · rintro ⟨s, hs, e⟩
    have : keyS a l = s := by unfold keyS; rw [← e]
    rw [this]; exact hs
  · exact fun h => ⟨_, h, rfl⟩


/-- Where 'can' stands: known's variable in q1, the map in r, can's variable in q2. -/
structure CSt (w : World) (q1 q2 r : Nat) (S : List ByteArray) : Prop where
  c1 : w.cell? ⟨q1, 0, none⟩ = some (.map (some r))
  c2 : w.cell? ⟨q2, 0, none⟩ = some (.func (.func 33) #[] #[.pointer (some ⟨q1, 0, none⟩), .pointer (some ⟨q2, 0, none⟩)])
  ms : MapS w r S
  l1 : q1 < w.heap.size
  l2 : q2 < w.heap.size

theorem CSt.below {w w' : World} {q1 q2 r : Nat} {S : List ByteArray} (h : CSt w q1 q2 r S) (hb : Below w.heap.size w w') : CSt w' q1 q2 r S := by
  have h1 := h.l1
  have h2 := h.l2
  have h3 := hb.size
  exact ⟨by rw [hb.cell (by simpa using h1)]; exact h.c1, by rw [hb.cell (by simpa using h2)]; exact h.c2, h.ms.block (hb.block _ h.ms.lt), by omega, by omega⟩

def CanOk (a : Nd) (l : Fo) : Prop := ∀ (v : Value) (B : Nat) (w : World) (q1 q2 r : Nat) (S : List ByteArray), RepV w B a l v → B ≤ w.heap.size → may a l = true → CSt w q1 q2 r S → Tab10 B w →
    Calls Tryd.prog 33 #[v, .pointer (some ⟨q1, 0, none⟩), .pointer (some ⟨q2, 0, none⟩)] w fun e w' => e = .returned (.bool (canT (inS S) a l)) ∧ Below w.heap.size w w'

def CanRel (w : World) (B : Nat) (q1 q2 r : Nat) (S : List ByteArray) (l : Fo) (b o : Nat) (iv : Value) (wr : World) : Prop :=
  ∃ (i : Nat) (g : Fo), iv = .int .i64 (i : Int) ∧ i + flen g = flen l ∧ AllF CanOk g ∧ DMay g ∧ RepF wr B g b (o + i * 4) ∧ Below w.heap.size w wr ∧ canF (inS S) l = canF (inS S) g

set_option maxRecDepth 100000 in
set_option maxHeartbeats 4000000 in
theorem can_step (a : Nd) (l : Fo) (ih : AllF CanOk l) : CanOk a l := by
  rintro v B w q1 q2 r S ⟨hf, A, cap, b, o, rfl, hn, hA, hr⟩ hB hm hst htab
  have HA : Hid (flen l = 0 ∨ A = some ⟨b, o, none⟩) := hA
  have HR : Hid (RepF w B l b o) := hr
  have HM : Hid (may a l = true) := hm
  have HST : Hid (CSt w q1 q2 r S) := hst
  have HTB : Hid (Tab10 B w) := htab
  clear hA hr hm hst htab
  have hbA : Below w.heap.size w (w.alloc (.cells #[.int .i64 a.kind, .int .i64 a.n, .string a.s, .slice A (flen l) cap] 29)) := Below.alloc (Below.refl _ _) (Nat.le_refl _) _
  go_enter Tryd.func33, Tryd.ntmps33
  by_cases h1 : a.kind = 1
  · have k1 : (a.kind == 1) = true := by simp [h1]
    have HC : Hid (canT (inS S) a l = true) := by show canT (inS S) a l = true; rw [canT, k1]; rfl
    clear h1
    go_wp2_with fail
    go_quiet (fail)
    have hq := below_drewN hbA nq
    generalize (World.alloc w _).drewN nq = wq at *
    go_wp2_with fail
    go_ret
    exact ⟨ret_bool HC.out.symm, hq⟩
  · have k1 : (a.kind == 1) = false := by simp [h1]
    go_wp2_with fail
    obtain ⟨W, hW⟩ : ∃ W : World, W = w.alloc (.cells #[.int .i64 a.kind, .int .i64 a.n, .string a.s, .slice A (flen l) cap] 29) := ⟨_, rfl⟩
    have hbx : Box4 W w.heap.size (.int .i64 a.kind) (.int .i64 a.n) (.string a.s) (.slice A (flen l) cap) := by rw [hW]; exact Box4.new w _ _ _ _ _
    rw [← hW] at hbA ⊢
    clear hW
    have hsW := hbA.size
    obtain ⟨K, hK⟩ : ∃ K : ByteArray, keyS a l = K := ⟨_, rfl⟩
    obtain ⟨bb, hbb⟩ : ∃ bb : Bool, inS S a l = bb := ⟨_, rfl⟩
    have HBB : Hid (inS S a l = bb) := hbb
    have hbb2 : bb = true ↔ K ∈ S := by rw [← hbb, ← hK]; exact inS_iff S a l
    have HKEY : Hid (∀ W', Below W.heap.size W W' → Calls Tryd.prog 34 #[.agg #[.int .i64 a.kind, .int .i64 a.n, .string a.s, .slice A (flen l) cap]] W' fun e w' => e = .returned (.string K) ∧ Below W'.heap.size W' w') := by
      intro W' hb
      rw [← hK]
      refine key_any a l _ W' ⟨hf, A, cap, b, o, rfl, hn, HA.out, ?_⟩ (may_key HM.out) (fun w' hb' => HTB.out w' (((hbA.mono hB).trans (hb.mono (by omega))).trans (hb'.mono (by have := hb.size; omega))))
      exact RepF.keep (by have := hb.size; omega) (fun q j hq => ((hbA.mono hB).trans (hb.mono (by omega))).cell hq) HR.out
    have HCS : Hid (∀ W', Below W.heap.size W W' → Box4 W' w.heap.size (.int .i64 a.kind) (.int .i64 a.n) (.string a.s) (.slice A (flen l) cap) ∧ W'.cell? ⟨q1, 0, none⟩ = some (.map (some r)) ∧ (Instr.lookup 52 (.map (some r)) (.string K) false).run Tryd.prog W' = .ok (.bool bb) W' ∧ Below W.heap.size W W') := by
      intro W' hb
      have h2 := (HST.out.below hbA).below hb
      exact ⟨hbx.below hb, h2.c1, run_known h2.ms K bb hbb2, hb⟩
    clear hK hbb hbb2 hbx
    go_region_held3 (fun w' => Box4 w' w.heap.size (.int .i64 a.kind) (.int .i64 a.n) (.string a.s) (.slice A (flen l) cap) ∧ w'.cell? ⟨q1, 0, none⟩ = some (.map (some r)) ∧ (Instr.lookup 52 (.map (some r)) (.string K) false).run Tryd.prog w' = .ok (.bool bb) w' ∧ Below W.heap.size W w')
      (first | exact HCS.out _ (Below.drew (Below.refl _ _)) | exact HCS.out _ ((Below.drew (Below.refl _ _)).trans hb1) | assumption)
      (first | (go_at_call 34; refine (HKEY.out _ (Below.drew (Below.refl _ _))).mono ?_; rintro e w1 ⟨rfl, hb1⟩))
    have hbw : Below w.heap.size w w1 := hbA.trans (((Below.drew (Below.refl _ _)).trans hb1).mono hsW)
    have hx4 := (HCS.out _ ((Below.drew (Below.refl _ _)).trans hb1)).1
    obtain ⟨x0, x1, x2, x3, x4⟩ := hx4
    cases bb with
    | true =>
      have HC : Hid (canT (inS S) a l = true) := by show canT (inS S) a l = true; rw [canT, HBB.out]; simp
      go_wp2_with fail
      go_ret
      exact ⟨ret_bool HC.out.symm, hbw⟩
    | false =>
      by_cases h2 : a.kind = 2
      · have k2 : (a.kind == 2) = true := by simp [h2]
        have HC : Hid (canT (inS S) a l = false) := by show canT (inS S) a l = false; rw [canT, HBB.out, k1, k2]; rfl
        go_wp2_with fail
        go_ret
        exact ⟨ret_bool HC.out.symm, hbw⟩
      · have k2 : (a.kind == 2) = false := by simp [h2]
        have HC : Hid (canT (inS S) a l = canF (inS S) l) := by show canT (inS S) a l = _; rw [canT, HBB.out, k1, k2]; simp
        clear h1 h2 HCS HKEY
        go_wp2_with fail
        go_loopw [22] (fun iv wr => CanRel w1 B q1 q2 r S l b o iv wr) (fun iv _ => flen l - (intOf iv).toNat)
        case atStart => exact ⟨0, l, rfl, by simp, ih, (may_dmay HM.out).2.2, by rw [show o + 0 * 4 = o from by omega]; exact HR.out.below (hbw.mono hB), Below.refl _ _, rfl⟩
        case round =>
          obtain ⟨i, g, rfl, hi, hg1, hdg, hrg, hbl, hcf⟩ := hrel
          have HCF : Hid (canF (inS S) l = canF (inS S) g) := hcf
          have HS1 : Hid (CSt wr q1 q2 r S) := (HST.out.below hbw).below hbl
          have c2 := HS1.out.c2
          have l2 := HS1.out.l2
          have hszr := hbl.size
          have hs1 := hbw.size
          clear hcf
          cases g with
          | nil =>
            simp only [flen] at hi
            go_wp2_with fail
            go_ret
            exact ⟨ret_bool (by rw [HC.out, HCF.out, canF]), hbw.trans (hbl.mono hs1)⟩
          | node b1 o1 a1 l1 r1 =>
            obtain ⟨hb1', hf1, e0, e1, e2, ⟨A1, cap1, b2, o2, e3, hn1, hA1, hl1⟩, hr1⟩ := hrg
            obtain ⟨hw1, hgr1⟩ := hg1
            obtain ⟨dm1, dm2, dm3, dm4⟩ := hdg
            simp only [flen] at hi
            obtain rfl : A = some ⟨b, o, none⟩ := by rcases HA.out with h | h; omega; exact h
            have HA1 : Hid (flen l1 = 0 ∨ A1 = some ⟨b2, o2, none⟩) := hA1
            have HD1 : Hid (may a1 l1 = true ∧ DMay r1) := ⟨dm1, dm4⟩
            have hal : Below wr.heap.size wr (wr.alloc (.cells #[.int .i64 a1.kind, .int .i64 a1.n, .string a1.s, .slice A1 (flen l1) cap1] 29)) := Below.alloc (Below.refl _ _) (Nat.le_refl _) _
            clear hA1 dm1 dm3 dm4 dm2
            go_wp2_with fail
            refine (hw1 _ B _ q1 q2 r S ⟨hf1, A1, cap1, b2, o2, rfl, hn1, HA1.out, hl1.below (hal.mono (by omega))⟩ (by simp; omega) HD1.out.1 (HS1.out.below hal) (HTB.out.on ((hbw.mono hB).trans ((hbl.mono (by omega)).trans (hal.mono (by omega)))))).mono ?_
            rintro e w8 ⟨rfl, hb8⟩
            have hB8 : Below wr.heap.size wr w8 := hal.trans (hb8.mono (by simp))
            have hr2 : RepF w8 B r1 b (o + i * 4 + 4) := RepF.keep (Nat.le_refl _) (fun q j hq => hB8.cell (by simp; omega)) hr1
            have HCN : Hid (canF (inS S) l = (canT (inS S) a1 l1 && canF (inS S) r1)) := by show canF (inS S) l = _; rw [HCF.out, canF_node]
            clear e0 e1 e2 e3 c2
            obtain ⟨cc, hcc⟩ : ∃ cc : Bool, canT (inS S) a1 l1 = cc := ⟨_, rfl⟩
            have HCC : Hid (canT (inS S) a1 l1 = cc) := hcc
            rw [hcc]
            clear hcc
            cases cc with
            | false =>
              go_wp2_with fail
              go_ret
              exact ⟨ret_bool (by rw [HC.out, HCN.out, HCC.out]; rfl), hbw.trans ((hbl.trans (hB8.mono hszr)).mono hs1)⟩
            | true =>
              go_wp2_with fail
              go_roundw
              case rel =>
                exact ⟨i + 1, r1, by go_num, by omega, hgr1, HD1.out.2, by rw [show o + (i + 1) * 4 = o + i * 4 + 4 from by omega]; exact hr2, hbl.trans (hB8.mono hszr), by rw [HCN.out, HCC.out]; rfl⟩
              case measure => simp [intOf]; omega

theorem can_all : ∀ f : Fo, AllF CanOk f
  | .nil => trivial
  | .node _ _ a l r => ⟨can_step a l (can_all l), can_all r⟩

end Go.Proofs.YtldpnhlifgkmiaaDoor

namespace Go.Proofs.YtldpnhlifgkmiaaDoor
open Go.RowKit
set_option linter.unusedVariables false
set_option linter.unusedSimpArgs false

theorem inS_knows {ks : List Kd} {L : List Kd} (hk : ∀ k ∈ ks, may k.a k.l = true) (ht : tms L = learnL ks []) (a : Nd) (l : Fo) (hm : may a l = true) : canT (inS (L.map fun k => keyS k.a k.l)) a l = true ↔ Knows (tms ks) a l := by
  have hs := learnL_spec ks [] hk (fun x hx => by cases hx)
  have hc := hs.clos
  refine canT_iff (fun a l hm => ?_) hm
  rw [inS_iff, mem_keys, ht, key_in hs.may hm]
  exact hc _

def CanEnd (w : World) (us : List (Nd × Fo)) (a : Nd) (l : Fo) (e : Ending) (w' : World) : Prop := ∃ b : Bool, e = .returned (.bool b) ∧ (b = true ↔ Knows us a l) ∧ Below w.heap.size w w'

set_option maxRecDepth 100000 in
set_option maxHeartbeats 4000000 in
theorem knowCan_any (ks : List Kd) (v : Value) (a : Nd) (l : Fo) (u : Value) (B : Nat) (w : World) (h : SlT w v ks) (hk : ∀ k ∈ ks, may k.a k.l = true) (hN : nodesK ks ≤ 50000) (hl : ks.length ≤ 1000) (hu : RepV w B a l u) (hB : B ≤ w.heap.size) (hm : may a l = true) (htab : Tab10 w.heap.size w) :
    Calls Tryd.prog 15 #[v, u] w fun e w' => CanEnd w (tms ks) a l e w' := by
  have HSL : Hid (SlT w v ks) := h
  have HK : Hid (∀ k ∈ ks, may k.a k.l = true) := hk
  have HU : Hid (RepV w B a l u) := hu
  have HTB : Hid (Tab10 w.heap.size w) := htab
  have HM : Hid (may a l = true) := hm
  obtain ⟨hf, A, cap, b, o, rfl, hn, hA, hr⟩ := hu
  obtain ⟨OA, oc, rfl, _⟩ := h.len
  clear h hk hA hr htab hm
  have hbA : Below w.heap.size w (w.alloc (.cells #[.int .i64 a.kind, .int .i64 a.n, .string a.s, .slice A (flen l) cap] 29)) := Below.alloc (Below.refl _ _) (Nat.le_refl _) _
  have hsf : ∀ (w : World) (p : Addr) (caps : Array Value), (store p (.func (.func 33) #[] caps)).run Tryd.prog w = stored Tryd.prog w p (.func (.func 33) #[] caps) .plain := fun w p caps => run_store _ _ _ _ _ rfl
  go_enter Tryd.func15, Tryd.ntmps15
  go_wp2_with fail
  refine (may_any a l _ _ (RepV.keep (w := w.alloc _) (B := B) (by simp; omega) (fun _ _ _ => rfl) (HU.out.below (hbA.mono hB)))).mono ?_
  rintro e w1 ⟨rfl, ho1⟩
  rw [HM.out]
  have hb1 : Below w.heap.size w w1 := hbA.trans (ho1.mono (by simp))
  obtain ⟨x0, x1, x2, x3, x4⟩ : Box4 w1 w.heap.size (.int .i64 a.kind) (.int .i64 a.n) (.string a.s) (.slice A (flen l) cap) := (Box4.new w _ _ _ _ _).below ho1
  clear ho1
  go_wp2_with fail
  refine (opened_any ks _ w1 (HSL.out.below hb1) (fun k hk => may_dmay (HK.out k hk)) hN hl (fun w' hb => HTB.out w' (hb1.trans (hb.mono hb1.size)))).mono ?_
  rintro e w2 ⟨ks', lv, rfl, hst, hb2, ht, hc⟩
  have HST : Hid (LSt w2 w1.heap.size lv ks') := hst
  have HT : Hid (tms ks' = learnL ks []) := ht
  have hbw2 : Below w.heap.size w w2 := hb1.trans (hb2.mono hb1.size)
  have hs2 := hb2.size
  have hs1 := hb1.size
  have y1 : w2.cell? ⟨w.heap.size, 0, none⟩ = some (.int .i64 a.kind) := (hb2.cell (by simpa using x0)).trans x1
  have y2 : w2.cell? ⟨w.heap.size, 1, none⟩ = some (.int .i64 a.n) := (hb2.cell (by simpa using x0)).trans x2
  have y3 : w2.cell? ⟨w.heap.size, 2, none⟩ = some (.string a.s) := (hb2.cell (by simpa using x0)).trans x3
  have y4 : w2.cell? ⟨w.heap.size, 3, none⟩ = some (.slice A (flen l) cap) := (hb2.cell (by simpa using x0)).trans x4
  have hx2 : w.heap.size < w2.heap.size := by omega
  clear hst ht x1 x2 x3 x4
  go_wp2_with fail
  obtain ⟨W, hW⟩ : ∃ W : World, W = (w2.alloc (.cells #[.map (some (w1.heap.size + 1))] 52)).alloc (.cells #[.func (.func 33) #[] #[.pointer (some ⟨w2.heap.size, 0, none⟩), .pointer (some ⟨w2.heap.size + 1, 0, none⟩)]] 56) := ⟨_, rfl⟩
  have hb3 : Below w2.heap.size w2 W := by rw [hW]; exact Below.alloc (Below.alloc (Below.refl _ _) (Nat.le_refl _) _) (by simp) _
  have hcs : CSt W w2.heap.size (w2.heap.size + 1) (w1.heap.size + 1) (ks'.map fun k => keyS k.a k.l) := by
    refine ⟨by rw [hW]; simp [go_sem], by rw [hW]; simp [go_sem], HST.out.ms.block (hb3.block _ HST.out.ms.lt), by rw [hW]; simp; omega, by rw [hW]; simp⟩
  rw [← hW]
  clear hW
  have hbW : Below w.heap.size w W := hbw2.trans (hb3.mono (by omega))
  have HCS : Hid (CSt W w2.heap.size (w2.heap.size + 1) (w1.heap.size + 1) (ks'.map fun k => keyS k.a k.l)) := hcs
  clear hcs
  refine (can_step a l (can_all l) _ w.heap.size W _ _ _ _ (RepV.keep hB (fun q j hq => (hbW.mono hB).cell hq) HU.out) hbW.size HM.out HCS.out (HTB.out.on hbW)).mono ?_
  rintro e w4 ⟨rfl, hb4⟩
  have HE : Hid (CanEnd w (tms ks) a l (.returned (.bool (canT (inS (ks'.map fun k => keyS k.a k.l)) a l))) w4) := ⟨_, rfl, inS_knows HK.out HT.out a l HM.out, hbW.trans (hb4.mono hbW.size)⟩
  clear HCS
  generalize canT (inS (ks'.map fun k => keyS k.a k.l)) a l = bb at *
  go_wp2_with fail
  go_ret
  exact HE.out

end Go.Proofs.YtldpnhlifgkmiaaDoor
