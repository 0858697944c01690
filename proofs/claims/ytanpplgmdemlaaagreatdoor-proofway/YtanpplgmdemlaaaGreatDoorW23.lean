import Derived.Test.YtanpplgmdemlaaaGreatDoorW20
import Derived.Test.YtanpplgmdemlaaaGreatDoorWY
import Derived.Test.YtanpplgmdemlaaaGreatDoorW3
namespace Go.Proofs.YtanpplgmdemlaaaGreatDoor
open Go.RowKit
set_option linter.unusedVariables false
set_option linter.unusedSimpArgs false

theorem tapeT_may3 (ns : List Int) (k : Nat) : may (tapeT ns 3 k).1.1 (tapeT ns 3 k).1.2 = true := (tape_may ns 3 k 1 0 (by decide) (by decide)).1

theorem nums_below {w w' : World} {B : Nat} {ns : List Int} {LA : Option Addr} (h : NumsAt w B ns LA) (hb : Below B w w') : NumsAt w' B ns LA := by
  rcases h with h | ⟨lb, lo, e, hl, hc⟩
  · exact .inl h
  · exact .inr ⟨lb, lo, e, hl, fun i hi => by rw [hb.cell (by simpa using hl)]; exact hc i hi⟩

/-- A row of terms of one's own, laid anew. -/
def TermsAt (w : World) (B : Nat) (v : Value) (ks : List Kd) : Prop :=
  w.ownsRow B 27 4 v ks.length (rowOf ks) ∧ ∀ k ∈ ks, k.Ok w (fun b => B ≤ b ∧ b < w.heap.size ∧ v.ownBlock ≠ some b) ∧ may k.a k.l = true

def TermsEnd (w : World) (most : Nat) (e : Ending) (w' : World) : Prop :=
  ∃ (v : Value) (ks : List Kd), e = .returned v ∧ ks.length ≤ most ∧ Below w.heap.size w w' ∧ TermsAt w' (w.heap.size + 1) v ks

set_option maxRecDepth 20000 in
set_option maxHeartbeats 4000000 in
/-- What Terms reads of a tape: at most so many, each a term, in a row of its own. -/
theorem terms_any (ns : List Int) (LA : Option Addr) (cap B most : Nat) (mi : Int) (hmi : mi = (most : Int)) (hmost : most ≤ 1000) (w : World) (hB : B ≤ w.heap.size) (hns : NumsAt w B ns LA) (hf : NumsFit ns) (hnl : ns.length ≤ 9223372036854775807) :
    Calls Tryz.prog 5 #[.slice LA ns.length cap, .int .i64 mi] w fun e w' => TermsEnd w most e w' := by
  subst hmi
  obtain ⟨i, hi, hz0, hz1, hz2⟩ := info_get Tryz.infoTerm
  go_enter Tryz.func5, Tryz.ntmps5
  go_wp2_with fail
  go_loopw [6, 7] (fun kv iv wr => ∃ (n k : Nat) (ks : List Kd), iv = .int .i64 (n : Int) ∧ n = ks.length ∧ n ≤ most ∧ k ≤ ns.length ∧ TapeAt wr w.heap.size LA ns.length cap k ∧ NumsAt wr B ns LA ∧ Below w.heap.size w wr ∧
      wr.ownsRow (w.heap.size + 1) 27 4 kv n (rowOf ks) ∧ (∀ k ∈ ks, k.Ok wr (fun b => w.heap.size + 1 ≤ b ∧ b < wr.heap.size ∧ kv.ownBlock ≠ some b) ∧ may k.a k.l = true))
    (fun _ iv _ => most - (intOf iv).toNat)
  case atStart =>
    refine ⟨0, 0, [], rfl, rfl, by omega, by omega, ⟨by simp, by simp [go_sem], by simp [go_sem], by simp [go_sem]⟩, nums_below hns (Below.mono (by repeat (first | exact Below.refl _ _ | assumption | refine below_drewN ?_ _ | refine Below.drew ?_ | refine Below.alloc ?_ (by simp <;> omega) _ | refine Below.setCell ?_ (by simp <;> omega) _)) hB), (by repeat (first | exact Below.refl _ _ | assumption | refine below_drewN ?_ _ | refine Below.drew ?_ | refine Below.alloc ?_ (by simp <;> omega) _ | refine Below.setCell ?_ (by simp <;> omega) _)), World.ownsRow_nil _ _ _ _, by simp⟩
  case round =>
    obtain ⟨n, k, ks, rfl, hnk, hnm, hk, ht, hnr, hbl, hown, hks⟩ := hrel
    have Hnk : Hid (n = ks.length) := hnk
    clear hnk
    by_cases hlt : (n : Int) < (most : Int)
    · go_wp2_with fail
      refine (more_any _ _ _ _ _ _ ht hnl).mono ?_
      rintro e w1 ⟨rfl, m, rfl⟩
      have hbm : Below wr.heap.size wr (wr.drewN m) := below_drewN (Below.refl _ _) m
      generalize wr.drewN m = w1 at *
      have hs1 := hbm.size
      have ht1 := ht.only hbm
      have hnr1 : NumsAt w1 B ns LA := nums_below hnr (hbm.mono (by have := hbl.size; omega))
      have hown1 := owns_below hown hbm
      by_cases hkl : k < ns.length
      · go_wp2_with fail
        have hm3 := tapeT_may3 ns k
        have hk3 := tapeT_le ns 3 k hk
        refine (termAt ns 3 3 rfl (by decide) _ w.heap.size B LA cap k ht1 hB hnr1 hf hk).mono ?_
        generalize tapeT ns 3 k = T at *
        obtain ⟨⟨a1, l1⟩, k3⟩ := T
        rintro e w2 ⟨v, rfl, ho2, ht2, hfa, A1, cap1, b1, o1, rfl, hn1, hA1, hl1⟩
        have HA1 : Hid (flen l1 = 0 ∨ A1 = some ⟨b1, o1, none⟩) := hA1
        have HM : Hid (may a1 l1 = true) := hm3
        clear hA1 hm3
        have hs2 := ho2.size
        have hvk := hown.lt
        have t0 := ht.1
        have hown2 : w2.ownsRow (w.heap.size + 1) 27 4 u6 n (rowOf ks) := owns_of hown1 (fun q hq => ho2.block q (by have := hvk q hq; omega) (by have := hvk q hq; omega))
        go_wp2_with (at_builtin; refine wpList_append_lies _ rfl _ _ 24 rfl (w.heap.size + 1) 27 i (.agg #[.int .i64 0, .int .i64 0, .string ⟨#[]⟩, .slice none 0 0]) 4 56 Tryz.underlying24 hi hz0 hz1 hz2 rfl (by decide) u6 n (rowOf ks) rfl ?own ⟨w2.heap.size, 0, none⟩ 1 1 [.int .i64 a1.kind, .int .i64 a1.n, .string a1.s, .slice A1 (flen l1) cap1] rfl rfl ?c1 ?c2 (by decide) ?c3 ?c4 ?c5 _ rfl ?_)
        case own => exact hown2.alloc _
        case c1 =>
          intro j u hj
          have hj4 : j = 0 ∨ j = 1 ∨ j = 2 ∨ j = 3 := by have := (List.getElem?_eq_some_iff.1 hj).1; simp at this; omega
          rcases hj4 with rfl | rfl | rfl | rfl <;> (simp at hj; subst hj; simp [Addr.add, go_sem])
        case c2 => intro u hu; simp at hu; rcases hu with rfl | rfl | rfl | rfl <;> rfl
        case c3 => unfold maxLen; omega
        case c4 => omega
        case c5 => simp; omega
        intro g cap4 w3 hown3 hgrow hat hlt3
        go_wp2_with fail
        go_roundw
        case rel =>
          have hg1s := hgrow.size
          simp only [World.heap_size_alloc'] at hg1s hat
          have hstep2 : ∀ q, q < w2.heap.size → u6.ownBlock ≠ some q → w3.heap[q]? = w2.heap[q]? := fun q hq hv => by
            rw [hgrow.block q (by simp; omega) (fun e => hv e.symm), Below.heap_alloc _ _ _ (by omega)]
          have hstep : ∀ q, q < wr.heap.size → u6.ownBlock ≠ some q → q ≠ w.heap.size → w3.heap[q]? = wr.heap[q]? := fun q hq hv hne => by
            rw [hstep2 q (by omega) hv, ho2.block q (by omega) hne]; exact hbm.block q hq
          have hg2 : ∀ q, w.heap.size + 1 ≤ q → q < w2.heap.size → u6.ownBlock ≠ some q → g ≠ q := fun q _ hq hv => by
            rcases hat with e | e
            · intro e2; rw [e2] at e; exact hv e
            · omega
          have htb : u6.ownBlock ≠ some w.heap.size := fun e => by have := hvk _ e; omega
          refine ⟨n + 1, k3, ks ++ [⟨0, 0, a1, l1, A1, cap1, b1, o1⟩], by go_num, by rw [List.length_append]; have := Hnk.out; simp; omega, by omega, hk3, ?_, ?_, ?_, ?_, ?_⟩
          · obtain ⟨q0, q1, q2, q3⟩ := ht2
            have hb := hstep2 w.heap.size q0 htb
            exact ⟨by omega, by rw [World.cell?_of_block hb]; exact q1, by rw [World.cell?_of_block hb]; exact q2, by rw [World.frozen?_of_block hb]; exact q3⟩
          · rcases hnr with h | ⟨lb, lo, e, hl, hc⟩
            · exact .inl h
            · exact .inr ⟨lb, lo, e, hl, fun i hi => by rw [World.cell?_of_block (hstep lb (by omega) (fun e => by have := hvk _ e; omega) (by omega))]; exact hc i hi⟩
          · exact hbl.trans ⟨hgrow.os.trans (ho2.os.trans hbm.os), hgrow.tape.trans (ho2.tape.trans hbm.tape), hgrow.output.trans (ho2.output.trans hbm.output), by omega, fun q hq => hstep q (by omega) (fun e => by have := hvk q e; omega) (by omega)⟩
          · rw [rowOf_append]; exact hown3
          · intro k' hk'
            rcases List.mem_append.1 hk' with hk' | hk'
            · refine ⟨(hks k' hk').1.keep (fun q hq => ⟨hq.1, by omega, ?_⟩) (fun q j hq => World.cell?_of_block (hstep q hq.2.1 hq.2.2 (by omega))), (hks k' hk').2⟩
              intro e; exact hg2 q hq.1 (by omega) hq.2.2 (by injection e)
            · simp at hk'; subst hk'
              refine ⟨⟨hfa, hn1, HA1.out, ?_⟩, HM.out⟩
              refine RepG.keep (fun q hq => ⟨by omega, by omega, ?_⟩) (fun q j hq => World.cell?_of_block (hstep2 q hq.2 (fun e => by have := hvk q e; omega))) hl1
              intro e; exact hg2 q (by omega) hq.2 (fun e => by have := hvk q e; omega) (by injection e)
        case measure => simp [intOf]; omega
      · go_wp2_with fail
        go_ret
        rw [Hnk.out] at hown1 hnm
        exact ⟨_, ks, rfl, hnm, hbl.trans (hbm.mono (by have := hbl.size; omega)), hown1, fun k' hk' => ⟨(hks k' hk').1.keep (fun q hq => ⟨hq.1, by omega, hq.2.2⟩) (fun q j hq => hbm.cell hq.2.1), (hks k' hk').2⟩⟩
    · go_wp2_with fail
      go_ret
      rw [Hnk.out] at hown hnm
      exact ⟨_, ks, rfl, hnm, hbl, hown, hks⟩

end Go.Proofs.YtanpplgmdemlaaaGreatDoor
