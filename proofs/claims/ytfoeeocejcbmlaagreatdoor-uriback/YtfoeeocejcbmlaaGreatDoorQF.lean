import Derived.Test.YtfoeeocejcbmlaaGreatDoorQC
import Derived.Test.YtfoeeocejcbmlaaGreatDoorQE
import Derived.Test.YtfoeeocejcbmlaaGreatDoorQW
import Derived.Test.YtfoeeocejcbmlaaGreatDoorE7
namespace Go.Proofs.YtfoeeocejcbmlaaGreatDoor
open Go.RowKit
set_option linter.unusedVariables false
set_option linter.unusedSimpArgs false

theorem prL_step (l : List Fd) (i : Nat) (h : i < l.length) : prL (l.take (i + 1)) = if i = 0 then prF (l.getD i fd0) else prL (l.take i) ++ 38 :: prF (l.getD i fd0) := by
  rw [List.take_succ_eq_append_getElem h, prL_snoc]
  have e : l[i]'h = l.getD i fd0 := by simp [List.getD, List.getElem?_eq_getElem h]
  rw [e]
  by_cases hz : i = 0
  · subst hz; simp
  · rw [if_neg hz, if_neg (by intro h0; have := congrArg List.length h0; rw [List.length_take, List.length_nil] at this; omega)]

theorem sumF_take (l : List Fd) (i : Nat) : sumF (l.take i) ≤ sumF l := by
  have := sumF_app (l.take i) (l.drop i)
  rw [List.take_append_drop] at this; omega

set_option maxRecDepth 100000 in
set_option maxHeartbeats 2000000 in
theorem qprint_any (l : List Fd) (v : Value) (w : World) (hl : l.length ≤ 100000) (hs : sumF l ≤ 100000) (hv : RowF w v l) (ht : Tab16 w.heap.size w) :
    Calls Tryz.prog 53 #[v] w fun e w' => e = .returned (.string (prS l)) ∧ Below w.heap.size w w' := by
  have HV : Hid (RowF w v l) := hv
  have HT : Hid (Tab16 w.heap.size w) := ht
  obtain ⟨A, cap, rfl, hcp, _⟩ := hv
  clear ht
  go_enter Tryz.func53, Tryz.ntmps53
  go_wp2_with fail
  go_loopw [8] (fun iv wr => ∃ i : Nat, iv = .int .i64 (i : Int) ∧ i ≤ l.length ∧ BldAt w.heap.size w.heap.size (prL (l.take i)) wr ∧ Below w.heap.size w wr ∧ w.heap.size < wr.heap.size) (fun iv _ => l.length - (intOf iv).toNat)
  case atStart =>
    exact ⟨0, rfl, Nat.zero_le _, Lib.IsBuilderF.of (Lib.fresh_isBuilder _ _ w), (by repeat (first | exact Below.refl _ _ | assumption | refine below_drewN ?_ _ | refine Below.drew ?_ | refine Below.alloc ?_ (by simp <;> omega) _ | refine Below.setCell ?_ (by simp <;> omega) _)), by simp⟩
  case round =>
    obtain ⟨i, rfl, hi, hbd, hb, hsz⟩ := hrel
    have HBD : Hid (BldAt w.heap.size w.heap.size (prL (l.take i)) wr) := hbd
    have HB : Hid (Below w.heap.size w wr) := hb
    have HVR : Hid (RowF wr (.slice A l.length cap) l) := HV.out.below hb
    have hpl := (prL_len (l.take i)).1
    have hsm := sumF_take l i
    have hln : (l.take i).length = i := by rw [List.length_take]; omega
    clear hbd hb
    by_cases hp : i < l.length
    · have hp' : (i : Int) < (l.length : Int) := by omega
      obtain ⟨b, o, rfl, hbl, hc⟩ := HVR.out.hold (by omega)
      obtain ⟨c1, c2⟩ := hc i hp
      have hm := sumF_mem (getD_mem l i hp)
      have hst := prL_step l i hp
      clear hc
      generalize l.getD i fd0 = f at *
      obtain ⟨x, y⟩ := f
      simp only at c1 c2 hm
      have hE1 := fun W hW => enc_at HT.out x (by omega) true _ rfl W hW
      have hE2 := fun W hW => enc_at HT.out y (by omega) true _ rfl W hW
      have z1 := encS_size true x
      have z2 := encS_size true y
      have hF : prF (x, y) = (encS true x).data.toList ++ 61 :: (encS true y).data.toList := rfl
      rw [hF] at hst
      have l61 : (⟨#[61]⟩ : ByteArray).data.toList = [61] := rfl
      generalize encS true x = ex at *
      generalize encS true y = ey at *
      generalize hacc : prL (l.take i) = acc at *
      have HST : Hid (prL (l.take (i + 1)) = if i = 0 then ex.data.toList ++ 61 :: ey.data.toList else acc ++ 38 :: (ex.data.toList ++ 61 :: ey.data.toList)) := hst
      have HAC : Hid (prL (l.take i) = acc) := hacc
      clear hst hacc hF
      have hfd := FdBlk.new wr x y
      have hal : Below wr.heap.size wr (wr.alloc (.cells #[.string x, .string y] 72)) := Below.alloc (Below.refl _ _) (Nat.le_refl _) _
      have hbd := bld_below HBD.out hal
      have hbw := HB.out.trans (hal.mono HB.out.size)
      have hsz1 := hal.size
      have gne : ¬ wr.heap.size = w.heap.size := by omega
      by_cases hz : i = 0
      · have hz' : ¬ (i : Int) > 0 := by omega
        have hac : acc = [] := by rw [← HAC.out, hz]; rfl
        have HF : Hid (prL (l.take (i + 1)) = acc ++ (ex.data.toList ++ [61] ++ ey.data.toList)) := by show _ = _; rw [HST.out, if_pos hz, hac]; simp
        clear hz hac
        go_wp2_with fail
        generalize wr.alloc (.cells #[.string x, .string y] 72) = w1 at *
        refine (hE1 _ hbw).mono ?_
        rintro e w2 ⟨rfl, h2⟩
        have hfd2 := hfd.below h2
        have hbd2 := bld_below hbd h2
        have hs2 := h2.size
        have hbw2 := hbw.trans (h2.mono hbw.size)
        clear hfd hbd hbw h2
        go_wp2_with fail
        refine (wstr_any _ _ _ ex w2 hbd2 (by (try simp only [List.length_append, size_list, size1, List.length_cons, List.length_nil]); omega) (by omega)).mono ?_
        rintro e w3 ⟨rfl, hbd3, hb3, hk3⟩
        have hfd3 := hfd2.kept hk3 gne
        have hbw3 := hbw2.trans hb3
        have hs3 := hb3.size
        clear hfd2 hbd2 hbw2 hb3 hk3
        go_wp2_with fail
        refine (wstr_any _ _ _ ⟨#[61]⟩ w3 hbd3 (by (try simp only [List.length_append, size_list, size1, List.length_cons, List.length_nil]); omega) (by omega)).mono ?_
        rintro e w4 ⟨rfl, hbd4, hb4, hk4⟩
        have hfd4 := hfd3.kept hk4 gne
        have hbw4 := hbw3.trans hb4
        have hs4 := hb4.size
        clear hfd3 hbd3 hbw3 hb4 hk4
        obtain ⟨p1, p2, p3⟩ := hfd4.cells
        go_wp2_with fail
        refine (hE2 _ hbw4).mono ?_
        rintro e w5 ⟨rfl, h5⟩
        have hbd5 := bld_below hbd4 h5
        have hs5 := h5.size
        have hbw5 := hbw4.trans (h5.mono hbw4.size)
        clear hfd4 hbd4 hbw4 h5 p1 p2 p3
        go_wp2_with fail
        refine (wstr_any _ _ _ ey w5 hbd5 (by (try simp only [List.length_append, size_list, size1, List.length_cons, List.length_nil]); omega) (by omega)).mono ?_
        rintro e w6 ⟨rfl, hbd6, hb6, _⟩
        have HBD6 : Hid (BldAt w.heap.size w.heap.size (prL (l.take (i + 1))) w6) := by
          show BldAt _ _ _ _
          rw [HF.out]
          simpa [l61, List.append_assoc] using hbd6
        have HB6 : Hid (Below w.heap.size w w6) := hbw5.trans hb6
        have hs6 := hb6.size
        clear hbd5 hbw5 hb6 hbd6
        go_wp2_with fail
        go_roundw
        case rel => exact ⟨i + 1, by go_num, by omega, HBD6.out, HB6.out, by omega⟩
        case measure => simp [intOf]; omega
      · have hz' : (i : Int) > 0 := by omega
        have HF : Hid (prL (l.take (i + 1)) = (acc ++ [38]) ++ (ex.data.toList ++ [61] ++ ey.data.toList)) := by show _ = _; rw [HST.out, if_neg hz]; simp
        clear hz
        go_wp2_with fail
        generalize wr.alloc (.cells #[.string x, .string y] 72) = w0 at *
        refine (wstr_any _ _ acc ⟨#[38]⟩ w0 hbd (by rw [size1]; omega) (by omega)).mono ?_
        rintro e w1 ⟨rfl, hbd1, hb1, hk1⟩
        have hfd1 := hfd.kept hk1 gne
        have hbw1 := hbw.trans hb1
        have hs1 := hb1.size
        clear hfd hbd hbw hk1 hb1 hal
        obtain ⟨q1, q2, q3⟩ := hfd1.cells
        go_wp2_with fail
        have hfd := hfd1
        have hbd := hbd1
        have hbw := hbw1
        clear hfd1 hbd1 hbw1
        refine (hE1 _ hbw).mono ?_
        rintro e w2 ⟨rfl, h2⟩
        have hfd2 := hfd.below h2
        have hbd2 := bld_below hbd h2
        have hs2 := h2.size
        have hbw2 := hbw.trans (h2.mono hbw.size)
        clear hfd hbd hbw h2
        go_wp2_with fail
        refine (wstr_any _ _ _ ex w2 hbd2 (by (try simp only [List.length_append, size_list, size1, List.length_cons, List.length_nil]); omega) (by omega)).mono ?_
        rintro e w3 ⟨rfl, hbd3, hb3, hk3⟩
        have hfd3 := hfd2.kept hk3 gne
        have hbw3 := hbw2.trans hb3
        have hs3 := hb3.size
        clear hfd2 hbd2 hbw2 hb3 hk3
        go_wp2_with fail
        refine (wstr_any _ _ _ ⟨#[61]⟩ w3 hbd3 (by (try simp only [List.length_append, size_list, size1, List.length_cons, List.length_nil]); omega) (by omega)).mono ?_
        rintro e w4 ⟨rfl, hbd4, hb4, hk4⟩
        have hfd4 := hfd3.kept hk4 gne
        have hbw4 := hbw3.trans hb4
        have hs4 := hb4.size
        clear hfd3 hbd3 hbw3 hb4 hk4
        obtain ⟨p1, p2, p3⟩ := hfd4.cells
        go_wp2_with fail
        refine (hE2 _ hbw4).mono ?_
        rintro e w5 ⟨rfl, h5⟩
        have hbd5 := bld_below hbd4 h5
        have hs5 := h5.size
        have hbw5 := hbw4.trans (h5.mono hbw4.size)
        clear hfd4 hbd4 hbw4 h5 p1 p2 p3
        go_wp2_with fail
        refine (wstr_any _ _ _ ey w5 hbd5 (by (try simp only [List.length_append, size_list, size1, List.length_cons, List.length_nil]); omega) (by omega)).mono ?_
        rintro e w6 ⟨rfl, hbd6, hb6, _⟩
        have HBD6 : Hid (BldAt w.heap.size w.heap.size (prL (l.take (i + 1))) w6) := by
          show BldAt _ _ _ _
          rw [HF.out]
          simpa [l61, List.append_assoc] using hbd6
        have HB6 : Hid (Below w.heap.size w w6) := hbw5.trans hb6
        have hs6 := hb6.size
        clear hbd5 hbw5 hb6 hbd6
        go_wp2_with fail
        go_roundw
        case rel => exact ⟨i + 1, by go_num, by omega, HBD6.out, HB6.out, by omega⟩
        case measure => simp [intOf]; omega
    · have hp' : ¬ (i : Int) < (l.length : Int) := by omega
      have HS : Hid (prL (l.take i) = prL l) := by show _ = _; rw [List.take_of_length_le (by omega)]
      have hst := Tryz.Builder_String_any_k w.heap.size w.heap.size (prL (l.take i)) wr HBD.out (by omega)
      go_wp2_with (go_at_call 72; refine hst.mono ?_; rintro e w1 ⟨rfl, _, h1, _⟩)
      go_ret
      exact ⟨ret_str (by rw [HS.out]; rfl), HB.out.trans h1⟩

end Go.Proofs.YtfoeeocejcbmlaaGreatDoor
