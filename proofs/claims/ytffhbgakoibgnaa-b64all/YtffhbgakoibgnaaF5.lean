import Derived.Test.YtffhbgakoibgnaaF4
import Derived.Test.YtffhbgakoibgnaaBS
namespace Go.Proofs.Ytffhbgakoibgnaa
open Go.RowKit
set_option linter.unusedVariables false
set_option linter.unusedSimpArgs false

theorem threes_ne (r : List UInt8) (h : r.length % 4 = 0) (h2 : r.length ≠ 0) : ∃ a b c d t, r = a :: b :: c :: d :: t := by
  match r, h, h2 with
  | [], _, h2 => exact absurd rfl h2
  | [a], h, _ => simp at h
  | [a, b], h, _ => simp at h
  | [a, b, c], h, _ => simp at h
  | a :: b :: c :: d :: t, _, _ => exact ⟨a, b, c, d, t, rfl⟩

theorem threes_len : ∀ l : List UInt8, (threes l).length = l.length / 4 * 3
  | [] => by simp [threes]
  | [a] => by simp [threes]
  | [a, b] => by simp [threes]
  | [a, b, c] => by simp [threes]
  | a :: b :: c :: d :: t => by
    have := threes_len t
    rw [threes, List.length_append, three_len, this]; simp only [List.length_cons]; omega

theorem g_len (l : List UInt8) : (gL l).length = l.length * 3 / 4 := by
  have h := pad_len 4 (by decide) 65 l
  have h2 : l.length ≤ (padL 4 65 l).length := by simp [padL]
  unfold gL
  rw [List.length_take, threes_len]
  omega

theorem cell_put3 {w : World} {p : Addr} {g : Nat} {u0 u1 u2 v : Value} (c : w.cell? p = some v) (h : p.block ≠ g) : (((w.setCell ⟨g, 0, none⟩ u0).setCell ⟨g, 1, none⟩ u1).setCell ⟨g, 2, none⟩ u2).cell? p = some v :=
  cell_put (cell_put (cell_put c h) h) h

theorem blk3 {wr w2 : World} {y : Value} {T : TypeId} (h : Below (wr.alloc (.cells #[y, y, y] T)).heap.size (wr.alloc (.cells #[y, y, y] T)) w2) :
    ((w2.cell? ⟨wr.heap.size, 0, none⟩ = some y ∧ w2.cell? ⟨wr.heap.size, 1, none⟩ = some y ∧ w2.cell? ⟨wr.heap.size, 2, none⟩ = some y) ∧
      w2.frozen? ⟨wr.heap.size, 0, none⟩ = false ∧ w2.frozen? ⟨wr.heap.size, 1, none⟩ = false ∧ w2.frozen? ⟨wr.heap.size, 2, none⟩ = false) ∧
    wr.heap.size < w2.heap.size ∧ Below wr.heap.size wr w2 := by
  have hblk := (h.block wr.heap.size (by simp)).trans (heap_alloc_new wr _)
  have hs := h.size
  simp at hs
  refine ⟨⟨⟨?_, ?_, ?_⟩, ?_, ?_, ?_⟩, by omega, ((Below.refl _ wr).alloc (Nat.le_refl _) _).trans (h.mono (by simp))⟩
  all_goals simp [World.cell?, World.frozen?, hblk]

theorem cells4 {w w2 : World} {bb oo : Nat} {v0 v1 v2 v3 : Value} (h : Below w.heap.size w w2) (c0 : w.cell? ⟨bb, oo, none⟩ = some v0) (c1 : w.cell? ⟨bb, oo + 1, none⟩ = some v1) (c2 : w.cell? ⟨bb, oo + 2, none⟩ = some v2) (c3 : w.cell? ⟨bb, oo + 3, none⟩ = some v3) :
    w2.cell? ⟨bb, oo, none⟩ = some v0 ∧ w2.cell? ⟨bb, oo + 1, none⟩ = some v1 ∧ w2.cell? ⟨bb, oo + 2, none⟩ = some v2 ∧ w2.cell? ⟨bb, oo + 3, none⟩ = some v3 :=
  ⟨(h.cell (cell_lt c0)).trans c0, (h.cell (cell_lt c1)).trans c1, (h.cell (cell_lt c2)).trans c2, (h.cell (cell_lt c3)).trans c3⟩

theorem laid_put3 {w w2 : World} {g : Nat} (a b c : UInt8) (z : Value) (h : Below w.heap.size w w2) (lo : w.heap.size ≤ g) (hi : g < w2.heap.size)
    (z0 : w2.cell? ⟨g, 0, none⟩ = some z) (z1 : w2.cell? ⟨g, 1, none⟩ = some z) (z2 : w2.cell? ⟨g, 2, none⟩ = some z) :
    Laid8 w g (((w2.setCell ⟨g, 0, none⟩ (.int .u8 (a.toNat : Int))).setCell ⟨g, 1, none⟩ (.int .u8 (b.toNat : Int))).setCell ⟨g, 2, none⟩ (.int .u8 (c.toNat : Int))) [a, b, c] := by
  refine ⟨lo, by simpa [World.setCell] using hi, ?_, fun j u hj => ?_⟩
  · exact ((h.setCell lo _).setCell lo _).setCell lo _
  · rw [show (⟨g, 0, none⟩ : Addr).add j = ⟨g, j, none⟩ from by cases j <;> simp [Addr.add]]
    have hj4 : j < 3 := by
      obtain ⟨h1, _⟩ := List.getElem?_eq_some_iff.1 hj
      simpa [Lib.byteCells] using h1
    rcases (show j = 0 ∨ j = 1 ∨ j = 2 by omega) with rfl | rfl | rfl <;> (simp [Lib.byteCells] at hj; subst hj; simp [go_sem, z0, z1, z2])

def Gue8 (w1 : World) (xs : List UInt8) (ov rv : Value) (wr : World) : Prop :=
  ∃ (acc r : List UInt8) (A2 : Option Addr) (cap2 : Nat), rv = .slice A2 r.length cap2 ∧ ByAt w1 w1.heap.size A2 r ∧ r.length ≤ cap2 ∧ cap2 ≤ maxLen ∧ r.length % 4 = 0 ∧ OwnB wr w1.heap.size ov acc ∧ acc ++ threes r = threes (padL 4 65 xs) ∧ Below w1.heap.size w1 wr

set_option maxRecDepth 100000 in
set_option maxHeartbeats 1000000 in
theorem bguess_any (s : ByteArray) (w : World) (hm : s.size ≤ 1000000) :
    Calls Try.prog 11 #[.string s] w fun e w' => BytesEnd w (gL s.data.toList) e w' := by
  obtain ⟨i5, hi, hz0, hz1, hz2⟩ := info_has Try.infoByte
  obtain ⟨C, W0, hC, hCm, hconv, hx0, _, hb0, _⟩ := bytes_row s w (by unfold maxLen; omega)
  obtain ⟨xs, hxs⟩ : ∃ xs, xs = s.data.toList := ⟨_, rfl⟩
  have hxl : xs.length = s.size := by rw [hxs]; exact size_list s
  rw [← hxs] at hx0 ⊢
  have hf := bfilled_any (some ⟨w.heap.size, 0, none⟩) xs C 4 (.inr rfl) 65 W0 hx0 (by omega) (by omega)
  have hlk : lack 4 xs < 4 := by (unfold lack; omega)
  have hpl : (padL 4 65 xs).length ≤ 1000003 := by simp [padL]; omega
  have hpm := pad_len 4 (by decide) 65 xs
  have Hxs : Hid (xs = s.data.toList) := hxs
  rw [hxl] at hf
  clear hx0 hxs hlk
  have hix := fun W => sg_index 0 (by decide) 65 rfl W
  go_enter Try.func11, Try.ntmps11
  go_wp2_with fail
  refine hf.mono ?_
  rintro e w1 ⟨A1, cap1, rfl, h1, h2, h3, hb1⟩
  have hb1 : Below w.heap.size w w1 := hb0.trans (hb1.mono hb0.size)
  clear hix hconv hf hb0
  go_wp2_with fail
  have HP : Hid ((padL 4 65 xs).length ≤ 1000003) := hpl
  go_loopw [3, 4] (fun ov rv wr => Gue8 w1 xs ov rv wr) (fun _ rv _ => sLen rv)
  case atStart => exact ⟨[], padL 4 65 xs, A1, cap1, rfl, h1, h2, h3, hpm, OwnB.nil _ _, by simp, Below.refl _ _⟩
  case round =>
    obtain ⟨acc, r, A2, cap2, rfl, hr, hrc, hrm, hmod, hown, hacc, hb⟩ := hrel
    by_cases hp : r.length = 0
    · obtain rfl := List.eq_nil_of_length_eq_zero hp
      have hacc' : acc = threes (padL 4 65 xs) := by rw [← hacc]; simp [threes]
      have hgl := g_len xs
      obtain ⟨m, hm0⟩ : ∃ m, m = xs.length * 3 / 4 := ⟨_, rfl⟩
      have htk : acc.take m = gL xs := by unfold gL; rw [hm0, hacc']
      rw [← hm0] at hgl
      have hma : m ≤ acc.length := by
        have := congrArg List.length htk
        rw [List.length_take, hgl] at this; omega
      obtain ⟨A3, cap3, rfl, hby, hc3, hm3⟩ := hown.byAt
      have hby2 := hby.take m
      rw [htk] at hby2
      have hsl := slice_to A3 acc.length cap3 m (by omega)
      have hq : (s.size : Int) * 3 / 4 = (m : Int) := by omega
      have HE : Hid (BytesEnd w (gL xs) (.returned (.slice A3 m cap3)) wr) := ⟨A3, cap3, by rw [hgl], hby2, by omega, hm3, hb1.trans (hb.mono hb1.size)⟩
      clear hacc hacc' htk hgl hm0 hby hby2 hown hr hmod hpm hpl h1
      go_wp2_with fail
      go_ret
      exact HE.out
    · obtain ⟨a, b, c, d, t, rfl⟩ := threes_ne r hmod hp
      obtain ⟨bb, oo, rfl, hbb, hcc⟩ : ∃ b' o, A2 = some ⟨b', o, none⟩ ∧ b' < w1.heap.size ∧ ∀ i, i < (a :: b :: c :: d :: t).length → w1.cell? ⟨b', o + i, none⟩ = some (.int .u8 (((a :: b :: c :: d :: t).getD i 0).toNat : Int)) := by
        rcases hr with h | h
        · simp at h
        · exact h
      have hl : (a :: b :: c :: d :: t).length = t.length + 4 := by simp
      have c0 := (hb.cell (p := ⟨bb, oo, none⟩) hbb).trans (hcc 0 (by omega))
      have c1 := (hb.cell (p := ⟨bb, oo + 1, none⟩) hbb).trans (hcc 1 (by omega))
      have c2 := (hb.cell (p := ⟨bb, oo + 2, none⟩) hbb).trans (hcc 2 (by omega))
      have c3 := (hb.cell (p := ⟨bb, oo + 3, none⟩) hbb).trans (hcc 3 (by omega))
      simp only [List.getD_cons_zero, List.getD_cons_succ] at c0 c1 c2 c3
      have hw := fun W => bread_any a b c d W
      obtain ⟨x0, hx0⟩ : ∃ x, x = UInt8.ofNat (bits4 a b c d / 65536) := ⟨_, rfl⟩
      obtain ⟨x1, hx1⟩ : ∃ x, x = UInt8.ofNat (bits4 a b c d / 256) := ⟨_, rfl⟩
      obtain ⟨x2, hx2⟩ : ∃ x, x = UInt8.ofNat (bits4 a b c d) := ⟨_, rfl⟩
      rw [← hx0, ← hx1, ← hx2] at hw
      have HX : Hid ([x0, x1, x2] = three a b c d) := by show _ = _; unfold three; rw [hx0, hx1, hx2]
      clear hx0 hx1 hx2
      rw [hl] at *
      have Hacc : Hid (acc ++ threes (a :: b :: c :: d :: t) = threes (padL 4 65 xs)) := hacc
      have HR : Hid (ByAt w1 w1.heap.size (some ⟨bb, oo, none⟩) (a :: b :: c :: d :: t)) := hr
      have HO : Hid (OwnB wr w1.heap.size u3 acc) := hown
      have Hmod : Hid ((t.length + 4) % 4 = 0) := hmod
      have hn3 : 4 ≤ t.length + 4 := by omega
      have hnc : t.length + 4 ≤ cap2 := hrc
      clear hcc hr hacc hmod hpl hpm h1 hrc hown hl hp
      generalize hn0 : t.length + 4 = n at *
      have HN : Hid (t.length + 4 = n) := hn0
      clear hn0
      have n0 : (0 : Int) < (n : Int) := by omega
      have n1 : (1 : Int) < (n : Int) := by omega
      have n2 : (2 : Int) < (n : Int) := by omega
      have n3 : (3 : Int) < (n : Int) := by omega
      have hsz := hb.size
      have hne : bb ≠ wr.heap.size := by omega
      go_wp2_with fail
      go_region_held3 (fun W => W.cell? ⟨bb, oo, none⟩ = some (.int .u8 (a.toNat : Int)) ∧ W.cell? ⟨bb, oo + 1, none⟩ = some (.int .u8 (b.toNat : Int)) ∧ W.cell? ⟨bb, oo + 2, none⟩ = some (.int .u8 (c.toNat : Int)) ∧ W.cell? ⟨bb, oo + 3, none⟩ = some (.int .u8 (d.toNat : Int)))
        (with_reducible (first | exact ⟨c0, c1, c2, c3⟩ | exact ⟨d0, d1, d2, d3⟩ | exact ⟨cell_dr c0, cell_dr c1, cell_dr c2, cell_dr c3⟩ | exact ⟨cell_dr (cell_up c0), cell_dr (cell_up c1), cell_dr (cell_up c2), cell_dr (cell_up c3)⟩ | exact ⟨cell_up d0, cell_up d1, cell_up d2, cell_up d3⟩ | exact ⟨cell_put3 d0 hne, cell_put3 d1 hne, cell_put3 d2 hne, cell_put3 d3 hne⟩))
        (first
          | (go_at_call 15; refine (hw _).mono ?_; rintro e w2 ⟨rfl, hb2⟩; have hb3 : Below (wr.alloc (.cells #[.int .u8 0, .int .u8 0, .int .u8 0] 37)).drew.heap.size (wr.alloc (.cells #[.int .u8 0, .int .u8 0, .int .u8 0] 37)).drew w2 := hb2; obtain ⟨⟨⟨z0, z1, z2⟩, y0, y1, y2⟩, hs2, hb4⟩ := blk3 (undrew hb3); obtain ⟨d0, d1, d2, d3⟩ := cells4 hb4 c0 c1 c2 c3; clear hb2 hb3; have HB4 : Hid (Below wr.heap.size wr w2) := hb4; clear hb4)
          | (go_at_call 15; refine (hw _).mono ?_; rintro e w2 ⟨rfl, hb2⟩; have hb4 := undrew (wr := wr) (w2 := w2) hb2; obtain ⟨d0, d1, d2, d3⟩ := cells4 hb4 c0 c1 c2 c3; clear hb2; have HB4 : Hid (Below wr.heap.size wr w2) := hb4; clear hb4))
      · have hl8 := laid_new [x0, x1, x2] 37 #[.int .u8 (x0.toNat : Int), .int .u8 (x1.toNat : Int), .int .u8 (x2.toNat : Int)] rfl HB4.out
        generalize (w2.alloc (.cells #[.int .u8 (x0.toNat : Int), .int .u8 (x1.toNat : Int), .int .u8 (x2.toNat : Int)] 37)) = W8 at hl8 ⊢
        generalize w2.heap.size = g8 at hl8 ⊢
        clear HB4 d0 d1 d2 d3
        have hs8 := hl8.bel.size
        have lo8 := hl8.lo
        have HL8 : Hid (Laid8 wr g8 W8 [x0, x1, x2]) := hl8
        have hsl := slice_from (some ⟨bb, oo, none⟩) n cap2 4 hn3
        obtain ⟨A3, hA3⟩ : ∃ A3, A3 = (if cap2 = 4 then some (⟨bb, oo, none⟩ : Addr) else (some (⟨bb, oo, none⟩ : Addr)).map (·.add 4)) := ⟨_, rfl⟩
        rw [← hA3] at hsl
        have HA3 : Hid (A3 = (if cap2 = 4 then some (⟨bb, oo, none⟩ : Addr) else (some (⟨bb, oo, none⟩ : Addr)).map (·.add 4))) := hA3
        have hal : acc.length ≤ 2100000 := by
          have h1 := congrArg List.length Hacc.out
          have h2 := threes_len (padL 4 65 xs)
          have h3 := HP.out
          rw [List.length_append] at h1
          omega
        clear hl8 hA3 hw
        go_wp2_with (at_builtin; refine wpList_append_any _ rfl _ _ 22 rfl w1.heap.size 5 i5 (.int .u8 0) 1 1 Try.underlying22 hi hz0 hz1 hz2 rfl (by decide) u3 acc.length (Lib.byteCells acc) rfl ?own (some ⟨g8, 0, none⟩) 3 3 (Lib.byteCells [x0, x1, x2]) rfl ?src ?c3 ?c4 ?c5 ?_)
        case own => exact HO.out.below HL8.out.bel
        case src => exact .inr ⟨_, rfl, rfl, HL8.out.cells, by simp [Value.oneCell', Lib.byteCells]⟩
        case c3 => unfold maxLen; omega
        case c4 => omega
        case c5 => omega
        intro v6 w6 hown6 hgrow6 hat6
        have O6 : Hid (OwnB w6 w1.heap.size v6 (acc ++ [x0, x1, x2])) := append_end hown6 rfl rfl
        have B6 : Hid (Below w1.heap.size w1 w6) := hb.trans ((HL8.out.bel.mono hsz).trans ((Grew.step (Grew.refl W8 u3) hgrow6 hat6).toBelow (fun q hq => (HO.out.base q hq).1) (by omega)))
        clear hown6 hgrow6 hat6
        go_wp2_with fail
        go_roundw
        case rel =>
          have hn := HN.out
          have hdr := HR.out.drop 4 cap2 (by simp) (by simpa [hn] using hnc)
          rw [← HA3.out] at hdr
          refine ⟨_, t, A3, cap2 - 4, ?_, hdr, by omega, by omega, by have := Hmod.out; omega, O6.out, ?_, B6.out⟩
          · rw [show n - 4 = t.length from by omega, HA3.out]; simp [Addr.add]
          · rw [HX.out, List.append_assoc]; exact Hacc.out
        case measure => show n - 4 < n; omega
      · have hl8 := laid_put3 x0 x1 x2 _ HB4.out (Nat.le_refl _) hs2 z0 z1 z2
        generalize (((w2.setCell ⟨wr.heap.size, 0, none⟩ (.int .u8 (x0.toNat : Int))).setCell ⟨wr.heap.size, 1, none⟩ (.int .u8 (x1.toNat : Int))).setCell ⟨wr.heap.size, 2, none⟩ (.int .u8 (x2.toNat : Int))) = W8 at hl8 ⊢
        obtain ⟨g8, hg8⟩ : ∃ g, g = wr.heap.size := ⟨_, rfl⟩
        rw [← hg8] at hl8 ⊢
        clear hg8 HB4 d0 d1 d2 d3 z0 z1 z2 y0 y1 y2
        have hs8 := hl8.bel.size
        have lo8 := hl8.lo
        have HL8 : Hid (Laid8 wr g8 W8 [x0, x1, x2]) := hl8
        have hsl := slice_from (some ⟨bb, oo, none⟩) n cap2 4 hn3
        obtain ⟨A3, hA3⟩ : ∃ A3, A3 = (if cap2 = 4 then some (⟨bb, oo, none⟩ : Addr) else (some (⟨bb, oo, none⟩ : Addr)).map (·.add 4)) := ⟨_, rfl⟩
        rw [← hA3] at hsl
        have HA3 : Hid (A3 = (if cap2 = 4 then some (⟨bb, oo, none⟩ : Addr) else (some (⟨bb, oo, none⟩ : Addr)).map (·.add 4))) := hA3
        have hal : acc.length ≤ 2100000 := by
          have h1 := congrArg List.length Hacc.out
          have h2 := threes_len (padL 4 65 xs)
          have h3 := HP.out
          rw [List.length_append] at h1
          omega
        clear hl8 hA3 hw
        go_wp2_with (at_builtin; refine wpList_append_any _ rfl _ _ 22 rfl w1.heap.size 5 i5 (.int .u8 0) 1 1 Try.underlying22 hi hz0 hz1 hz2 rfl (by decide) u3 acc.length (Lib.byteCells acc) rfl ?own (some ⟨g8, 0, none⟩) 3 3 (Lib.byteCells [x0, x1, x2]) rfl ?src ?c3 ?c4 ?c5 ?_)
        case own => exact HO.out.below HL8.out.bel
        case src => exact .inr ⟨_, rfl, rfl, HL8.out.cells, by simp [Value.oneCell', Lib.byteCells]⟩
        case c3 => unfold maxLen; omega
        case c4 => omega
        case c5 => omega
        intro v6 w6 hown6 hgrow6 hat6
        have O6 : Hid (OwnB w6 w1.heap.size v6 (acc ++ [x0, x1, x2])) := append_end hown6 rfl rfl
        have B6 : Hid (Below w1.heap.size w1 w6) := hb.trans ((HL8.out.bel.mono hsz).trans ((Grew.step (Grew.refl W8 u3) hgrow6 hat6).toBelow (fun q hq => (HO.out.base q hq).1) (by omega)))
        clear hown6 hgrow6 hat6
        go_wp2_with fail
        go_roundw
        case rel =>
          have hn := HN.out
          have hdr := HR.out.drop 4 cap2 (by simp) (by simpa [hn] using hnc)
          rw [← HA3.out] at hdr
          refine ⟨_, t, A3, cap2 - 4, ?_, hdr, by omega, by omega, by have := Hmod.out; omega, O6.out, ?_, B6.out⟩
          · rw [show n - 4 = t.length from by omega, HA3.out]; simp [Addr.add]
          · rw [HX.out, List.append_assoc]; exact Hacc.out
        case measure => show n - 4 < n; omega

end Go.Proofs.Ytffhbgakoibgnaa
