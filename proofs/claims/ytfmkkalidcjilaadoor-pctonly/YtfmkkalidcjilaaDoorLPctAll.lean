import Derived.Test.YtfmkkalidcjilaaDoorE7
namespace Go.Proofs.YtfmkkalidcjilaaDoor
open Go.RowKit
set_option linter.unusedVariables false
set_option linter.unusedSimpArgs false

theorem renc_at (s : ByteArray) (hs : s.size ≤ 1000000) (form : Bool) (t : ByteArray) (e : encS form s = t) (W : World) :
    Calls Tryd.prog 9 #[.string s, .bool form] W fun e w' => e = .returned (.string t) ∧ Below W.heap.size W w' := by
  subst e
  exact renc_any s hs form W

/-- Four texts stand in block g. -/
def Row4 (g : Nat) (a b c d : ByteArray) (w : World) : Prop :=
  w.cell? ⟨g, 0, none⟩ = some (.string a) ∧ w.cell? ⟨g, 1, none⟩ = some (.string b) ∧ w.cell? ⟨g, 2, none⟩ = some (.string c) ∧ w.cell? ⟨g, 3, none⟩ = some (.string d)

theorem Row4.below {g : Nat} {a b c d : ByteArray} {w w' : World} (h : Row4 g a b c d w) (hg : g < w.heap.size) (hb : Below w.heap.size w w') : Row4 g a b c d w' := by
  obtain ⟨h0, h1, h2, h3⟩ := h
  exact ⟨by rw [hb.cell (by simpa using hg)]; exact h0, by rw [hb.cell (by simpa using hg)]; exact h1, by rw [hb.cell (by simpa using hg)]; exact h2, by rw [hb.cell (by simpa using hg)]; exact h3⟩

theorem Row4.at {g : Nat} {a b c d : ByteArray} {w : World} (h : Row4 g a b c d w) (N : Nat) (ha : a.size ≤ N) (hb : b.size ≤ N) (hc : c.size ≤ N) (hd : d.size ≤ N) (i : Nat) (hi : i < 4) : ∃ x : ByteArray, x.size ≤ N ∧ w.cell? ⟨g, i, none⟩ = some (.string x) := by
  obtain ⟨h0, h1, h2, h3⟩ := h
  rcases (show i = 0 ∨ i = 1 ∨ i = 2 ∨ i = 3 by omega) with rfl | rfl | rfl | rfl
  · exact ⟨a, ha, h0⟩
  · exact ⟨b, hb, h1⟩
  · exact ⟨c, hc, h2⟩
  · exact ⟨d, hd, h3⟩

set_option maxRecDepth 100000 in
set_option maxHeartbeats 2000000 in
theorem pctAll_any (raw : ByteArray) (ns : List Int) (LA : Option Addr) (cap : Nat) (form : Bool) (w : World) (hns : NumsAt w w.heap.size ns LA) (hf : NumsFit ns) (ht : Tab16 w.heap.size w) :
    Calls Tryd.prog 3 #[.string raw, .slice LA ns.length cap, .bool form] w fun e w' => e = .returned (.bool true) ∧ Below w.heap.size w w' := by
  go_enter Tryd.func3, Tryd.ntmps3
  go_wp2_with fail
  refine (known7_any w ht).mono ?_
  rintro e w1 ⟨rfl, h1⟩
  by_cases ha : raw.size ≤ 300
  · have ha' : ¬ (raw.size : Int) > 300 := by omega
    have hsm := someF_small ns 20 0 ByteArray.empty
    rw [show ByteArray.empty.size = 0 from rfl] at hsm
    have s1 := h1.size
    have k1 := some_any ns LA cap w.heap.size 20 (by decide) w1 s1 (hns.below h1) hf
    generalize someF ns 20 0 ByteArray.empty = s at *
    have ea := encS_size form s
    have eb := encS_size (!form) raw
    have k2 := renc_at s (by omega) form _ rfl
    have k3 := renc_at raw (by omega) (!form) _ rfl
    generalize encS form s = xs at *
    generalize encS (!form) raw = xr at *
    have l1 : xs.size + raw.size ≤ 9223372036854775807 := by omega
    have Htab : Hid (Tab16 w.heap.size w) := ht
    clear ht hns
    go_wp2_with fail
    refine k1.mono ?_
    rintro e w2 ⟨rfl, h2⟩
    replace h2 := below_tr h1 h2
    go_wp2_with fail
    refine (k2 _).mono ?_
    rintro e w3 ⟨rfl, h3⟩
    replace h3 := below_tr h2 h3
    go_wp2_with fail
    refine (k3 _).mono ?_
    rintro e w4 ⟨rfl, h4⟩
    replace h4 := below_tr h3 h4
    have s4 := h4.size
    clear k1 k2 k3 h1 h2 h3 s1
    go_wp2_with fail
    have hrow : Row4 w4.heap.size raw s (xs ++ raw) xr (w4.alloc (.cells #[.string raw, .string s, .string (xs ++ raw), .string xr] 9)) := ⟨by simp [go_sem], by simp [go_sem], by simp [go_sem], by simp [go_sem]⟩
    have hb5 : Below w.heap.size w (w4.alloc (.cells #[.string raw, .string s, .string (xs ++ raw), .string xr] 9)) := h4.alloc s4 _
    have hsz5 : w4.heap.size < (w4.alloc (.cells #[.string raw, .string s, .string (xs ++ raw), .string xr] 9)).heap.size := by simp
    have la : (xs ++ raw).size ≤ 1000 := by rw [ByteArray.size_append]; omega
    generalize hx4 : xs ++ raw = xx at *
    generalize w4.alloc (.cells #[.string raw, .string s, .string xx, .string xr] 9) = w5 at *
    generalize w4.heap.size = g at *
    clear hx4 h4
    go_loopw [9] (fun iv wr => ∃ i : Nat, iv = .int .i64 (i : Int) ∧ i ≤ 4 ∧ Below w5.heap.size w5 wr) (fun iv _ => 4 - (intOf iv).toNat)
    case atStart => exact ⟨0, rfl, by omega, Below.refl _ _⟩
    case round =>
      obtain ⟨i, rfl, hi, hb⟩ := hrel
      have hsr := hb.size
      by_cases hp : i < 4
      · have hp' : (i : Int) < 4 := by omega
        obtain ⟨x, hx, hcell⟩ := (hrow.below hsz5 hb).at 1000 (by omega) (by omega) la (by omega) i hp
        have hbw : Below w.heap.size w wr := hb5.trans (hb.mono hb5.size)
        have k1 := dec_at Htab.out x (by omega) form _ _ rfl rfl
        have k2 := fun W => rdec_any x (by omega) form W
        have k3 := enc_at Htab.out x (by omega) form _ rfl
        have k4 := renc_at x (by omega) form _ rfl
        generalize decX form x = dx at *
        generalize decN form x = dn at *
        generalize encS form x = ex at *
        go_wp2_with fail
        refine (k1 _ hbw).mono ?_
        rintro e w6 ⟨rfl, h6⟩
        have c6 := (h6.cell (p := ⟨g, i, none⟩) (by show g < _; omega)).trans hcell
        have b6 := below_tr hbw h6
        have bb6 := hb.trans (h6.mono hsr)
        clear hcell
        go_wp2_with fail
        refine (k2 _).mono ?_
        rintro e w7 ⟨rfl, h7⟩
        have hs6 := h6.size
        have c7 := (h7.cell (p := ⟨g, i, none⟩) (by show g < _; omega)).trans c6
        have b7 := below_tr b6 h7
        have bb7 := bb6.trans (h7.mono (by omega))
        have hs7 := h7.size
        clear c6
        go_wp2_with fail
        go_region_held3 (fun W => W.cell? ⟨g, i, none⟩ = some (.string x) ∧ Below w7.heap.size w7 W)
          (first | assumption | exact ⟨c7, Below.drew (Below.refl _ _)⟩ | exact ⟨c7, Below.refl _ _⟩ | exact ⟨c8, h8⟩ | exact ⟨c9, h9⟩)
          (first
            | (go_at_call 12; refine (k3 _ ?_).mono ?_; exact Below.drew b7; rintro e w8 ⟨rfl, h8'⟩; have h8 : Below w7.heap.size w7 w8 := Below.trans (Below.drew (Below.refl _ _)) h8'; have c8 := (h8.cell (p := ⟨g, i, none⟩) (by show g < _; omega)).trans c7)
            | (go_at_call 9; refine (k4 _).mono ?_; rintro e w9 ⟨rfl, h9'⟩; have h9 := below_tr h8 h9'; have c9 := (h9.cell (p := ⟨g, i, none⟩) (by show g < _; omega)).trans c7))
        have bb9 : Below w5.heap.size w5 w9 := bb7.trans (h9.mono (by omega))
        clear h8 h8' h9 h9' c7 c8 k1 k2 k3 k4
        go_wp2_with fail
        go_roundw
        case rel => exact ⟨i + 1, by simp, by omega, bb9⟩
        case measure =>
          simp [intOf]
          omega
      · have hp' : ¬ (i : Int) < 4 := by omega
        go_wp2_with fail
        go_ret
        exact ⟨rfl, hb5.trans (hb.mono hb5.size)⟩
  · have ha' : (raw.size : Int) > 300 := by omega
    go_wp2_with fail
    go_ret
    exact ⟨rfl, h1⟩

end Go.Proofs.YtfmkkalidcjilaaDoor
