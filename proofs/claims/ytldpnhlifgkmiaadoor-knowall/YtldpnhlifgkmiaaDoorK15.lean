import Derived.Test.YtldpnhlifgkmiaaDoorK13
namespace Go.Proofs.YtldpnhlifgkmiaaDoor
open Go.RowKit
set_option linter.unusedVariables false
set_option linter.unusedSimpArgs false

theorem inS_knows {ks : List Kd} {L : List Kd} (hk : ∀ k ∈ ks, may k.a k.l = true) (ht : tms L = learnL ks []) (a : Nd) (l : Fo) (hm : may a l = true) : canT (inS (L.map fun k => keyS k.a k.l)) a l = true ↔ Knows (tms ks) a l := by
  have hs := learnL_spec ks [] hk (fun x hx => by cases hx)
  have hc := hs.clos
  refine canT_iff (fun a l hm => ?_) hm
  rw [inS_iff, mem_keys, ht, key_in hs.may hm]
  exact hc _

def CanEnd (w : World) (us : List (Nd × Fo)) (a : Nd) (l : Fo) (e : Ending) (w' : World) : Prop := ∃ b : Bool, e = .returned (.bool b) ∧ (b = true ↔ Knows us a l) ∧ Below w.heap.size w w'

set_option maxRecDepth 100000 in
set_option maxHeartbeats 4000000 in
theorem knowCan_any (ks : List Kd) (v : Value) (a : Nd) (l : Fo) (u : Value) (B : Nat) (w : World) (h : SlT w v ks) (hk : ∀ k ∈ ks, may k.a k.l = true) (hN : nodesK ks ≤ 50000) (hl : ks.length ≤ 1000) (hu : RepV w B a l u) (hB : B ≤ w.heap.size) (hm : may a l = true) (htab : Tab10 w.heap.size w) :
    Calls Tryd.prog 15 #[v, u] w fun e w' => CanEnd w (tms ks) a l e w' := by
  have HSL : Hid (SlT w v ks) := h
  have HK : Hid (∀ k ∈ ks, may k.a k.l = true) := hk
  have HU : Hid (RepV w B a l u) := hu
  have HTB : Hid (Tab10 w.heap.size w) := htab
  have HM : Hid (may a l = true) := hm
  obtain ⟨hf, A, cap, b, o, rfl, hn, hA, hr⟩ := hu
  obtain ⟨OA, oc, rfl, _⟩ := h.len
  clear h hk hA hr htab hm
  have hbA : Below w.heap.size w (w.alloc (.cells #[.int .i64 a.kind, .int .i64 a.n, .string a.s, .slice A (flen l) cap] 29)) := Below.alloc (Below.refl _ _) (Nat.le_refl _) _
  have hsf : ∀ (w : World) (p : Addr) (caps : Array Value), (store p (.func (.func 33) #[] caps)).run Tryd.prog w = stored Tryd.prog w p (.func (.func 33) #[] caps) .plain := fun w p caps => run_store _ _ _ _ _ rfl
  go_enter Tryd.func15, Tryd.ntmps15
  go_wp2_with fail
  refine (may_any a l _ _ (RepV.keep (w := w.alloc _) (B := B) (by simp; omega) (fun _ _ _ => rfl) (HU.out.below (hbA.mono hB)))).mono ?_
  rintro e w1 ⟨rfl, ho1⟩
  rw [HM.out]
  have hb1 : Below w.heap.size w w1 := hbA.trans (ho1.mono (by simp))
  obtain ⟨x0, x1, x2, x3, x4⟩ : Box4 w1 w.heap.size (.int .i64 a.kind) (.int .i64 a.n) (.string a.s) (.slice A (flen l) cap) := (Box4.new w _ _ _ _ _).below ho1
  clear ho1
  go_wp2_with fail
  refine (opened_any ks _ w1 (HSL.out.below hb1) (fun k hk => may_dmay (HK.out k hk)) hN hl (fun w' hb => HTB.out w' (hb1.trans (hb.mono hb1.size)))).mono ?_
  rintro e w2 ⟨ks', lv, rfl, hst, hb2, ht, hc⟩
  have HST : Hid (LSt w2 w1.heap.size lv ks') := hst
  have HT : Hid (tms ks' = learnL ks []) := ht
  have hbw2 : Below w.heap.size w w2 := hb1.trans (hb2.mono hb1.size)
  have hs2 := hb2.size
  have hs1 := hb1.size
  have y1 : w2.cell? ⟨w.heap.size, 0, none⟩ = some (.int .i64 a.kind) := (hb2.cell (by simpa using x0)).trans x1
  have y2 : w2.cell? ⟨w.heap.size, 1, none⟩ = some (.int .i64 a.n) := (hb2.cell (by simpa using x0)).trans x2
  have y3 : w2.cell? ⟨w.heap.size, 2, none⟩ = some (.string a.s) := (hb2.cell (by simpa using x0)).trans x3
  have y4 : w2.cell? ⟨w.heap.size, 3, none⟩ = some (.slice A (flen l) cap) := (hb2.cell (by simpa using x0)).trans x4
  have hx2 : w.heap.size < w2.heap.size := by omega
  clear hst ht x1 x2 x3 x4
  go_wp2_with fail
  obtain ⟨W, hW⟩ : ∃ W : World, W = (w2.alloc (.cells #[.map (some (w1.heap.size + 1))] 52)).alloc (.cells #[.func (.func 33) #[] #[.pointer (some ⟨w2.heap.size, 0, none⟩), .pointer (some ⟨w2.heap.size + 1, 0, none⟩)]] 56) := ⟨_, rfl⟩
  have hb3 : Below w2.heap.size w2 W := by rw [hW]; exact Below.alloc (Below.alloc (Below.refl _ _) (Nat.le_refl _) _) (by simp) _
  have hcs : CSt W w2.heap.size (w2.heap.size + 1) (w1.heap.size + 1) (ks'.map fun k => keyS k.a k.l) := by
    refine ⟨by rw [hW]; simp [go_sem], by rw [hW]; simp [go_sem], HST.out.ms.block (hb3.block _ HST.out.ms.lt), by rw [hW]; simp; omega, by rw [hW]; simp⟩
  rw [← hW]
  clear hW
  have hbW : Below w.heap.size w W := hbw2.trans (hb3.mono (by omega))
  have HCS : Hid (CSt W w2.heap.size (w2.heap.size + 1) (w1.heap.size + 1) (ks'.map fun k => keyS k.a k.l)) := hcs
  clear hcs
  refine (can_step a l (can_all l) _ w.heap.size W _ _ _ _ (RepV.keep hB (fun q j hq => (hbW.mono hB).cell hq) HU.out) hbW.size HM.out HCS.out (HTB.out.on hbW)).mono ?_
  rintro e w4 ⟨rfl, hb4⟩
  have HE : Hid (CanEnd w (tms ks) a l (.returned (.bool (canT (inS (ks'.map fun k => keyS k.a k.l)) a l))) w4) := ⟨_, rfl, inS_knows HK.out HT.out a l HM.out, hbW.trans (hb4.mono hbW.size)⟩
  clear HCS
  generalize canT (inS (ks'.map fun k => keyS k.a k.l)) a l = bb at *
  go_wp2_with fail
  go_ret
  exact HE.out

end Go.Proofs.YtldpnhlifgkmiaaDoor
