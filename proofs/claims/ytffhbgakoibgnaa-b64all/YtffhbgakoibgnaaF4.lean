import Derived.Test.YtffhbgakoibgnaaF3
import Derived.Test.YtffhbgakoibgnaaD0
namespace Go.Proofs.Ytffhbgakoibgnaa
open Go.RowKit
set_option linter.unusedVariables false
set_option linter.unusedSimpArgs false

theorem fours_ne (r : List UInt8) (h : r.length % 3 = 0) (h2 : r.length ≠ 0) : ∃ a b c t, r = a :: b :: c :: t := by
  match r, h, h2 with
  | [], _, h2 => exact absurd rfl h2
  | [a], h, _ => simp at h
  | [a, b], h, _ => simp at h
  | a :: b :: c :: t, _, _ => exact ⟨a, b, c, t, rfl⟩

theorem cell_up {w : World} {o : Obj} {p : Addr} {v : Value} (c : w.cell? p = some v) : (w.alloc o).cell? p = some v := by
  rw [World.cell?_of_block (Below.heap_alloc _ _ _ (cell_lt c))]; exact c

theorem cell_dr {w : World} {p : Addr} {v : Value} (c : w.cell? p = some v) : w.drew.cell? p = some v := c
theorem cell_put {w : World} {p q : Addr} {u v : Value} (c : w.cell? p = some v) (h : p.block ≠ q.block) : (w.setCell q u).cell? p = some v := by
  rw [World.cell?_setCell_other _ _ _ _ (fun e => h (by rw [e]))]; exact c
theorem cell_put4 {w : World} {p : Addr} {g : Nat} {u0 u1 u2 u3 v : Value} (c : w.cell? p = some v) (h : p.block ≠ g) : ((((w.setCell ⟨g, 0, none⟩ u0).setCell ⟨g, 1, none⟩ u1).setCell ⟨g, 2, none⟩ u2).setCell ⟨g, 3, none⟩ u3).cell? p = some v :=
  cell_put (cell_put (cell_put (cell_put c h) h) h) h

theorem blk4 {wr w2 : World} {y : Value} {T : TypeId} (h : Below (wr.alloc (.cells #[y, y, y, y] T)).heap.size (wr.alloc (.cells #[y, y, y, y] T)) w2) :
    ((w2.cell? ⟨wr.heap.size, 0, none⟩ = some y ∧ w2.cell? ⟨wr.heap.size, 1, none⟩ = some y ∧ w2.cell? ⟨wr.heap.size, 2, none⟩ = some y ∧ w2.cell? ⟨wr.heap.size, 3, none⟩ = some y) ∧
      w2.frozen? ⟨wr.heap.size, 0, none⟩ = false ∧ w2.frozen? ⟨wr.heap.size, 1, none⟩ = false ∧ w2.frozen? ⟨wr.heap.size, 2, none⟩ = false ∧ w2.frozen? ⟨wr.heap.size, 3, none⟩ = false) ∧
    wr.heap.size < w2.heap.size ∧ Below wr.heap.size wr w2 := by
  have hblk := (h.block wr.heap.size (by simp)).trans (heap_alloc_new wr _)
  have hs := h.size
  simp at hs
  refine ⟨⟨⟨?_, ?_, ?_, ?_⟩, ?_, ?_, ?_, ?_⟩, by omega, ((Below.refl _ wr).alloc (Nat.le_refl _) _).trans (h.mono (by simp))⟩
  all_goals simp [World.cell?, World.frozen?, hblk]

theorem undrew {wr w2 : World} (h : Below wr.drew.heap.size wr.drew w2) : Below wr.heap.size wr w2 := ((Below.refl _ wr).drew).trans h

theorem cells3 {w w2 : World} {bb oo : Nat} {v0 v1 v2 : Value} (h : Below w.heap.size w w2) (c0 : w.cell? ⟨bb, oo, none⟩ = some v0) (c1 : w.cell? ⟨bb, oo + 1, none⟩ = some v1) (c2 : w.cell? ⟨bb, oo + 2, none⟩ = some v2) :
    w2.cell? ⟨bb, oo, none⟩ = some v0 ∧ w2.cell? ⟨bb, oo + 1, none⟩ = some v1 ∧ w2.cell? ⟨bb, oo + 2, none⟩ = some v2 :=
  ⟨(h.cell (cell_lt c0)).trans c0, (h.cell (cell_lt c1)).trans c1, (h.cell (cell_lt c2)).trans c2⟩

/-- A row of l's bytes has been laid at g, behind w. -/
structure Laid8 (w : World) (g : Nat) (W : World) (l : List UInt8) : Prop where
  lo : w.heap.size ≤ g
  hi : g < W.heap.size
  bel : Below w.heap.size w W
  cells : ∀ j u, (Lib.byteCells l)[j]? = some u → W.cell? ((⟨g, 0, none⟩ : Addr).add j) = some u

theorem laid_new {w w2 : World} (l : List UInt8) (T : TypeId) (cs : Array Value) (e : cs = (Lib.byteCells l).toArray) (h : Below w.heap.size w w2) : Laid8 w w2.heap.size (w2.alloc (.cells cs T)) l := by
  subst e
  refine ⟨h.size, by simp, h.alloc h.size _, fun j u hj => ?_⟩
  have hb := heap_alloc_new w2 (.cells (Lib.byteCells l).toArray T)
  rw [show (⟨w2.heap.size, 0, none⟩ : Addr).add j = ⟨w2.heap.size, j, none⟩ from by cases j <;> simp [Addr.add]]
  unfold World.cell?
  rw [hb]
  simpa using hj

theorem laid_put4 {w w2 : World} {g : Nat} (a b c d : UInt8) (z : Value) (h : Below w.heap.size w w2) (lo : w.heap.size ≤ g) (hi : g < w2.heap.size)
    (z0 : w2.cell? ⟨g, 0, none⟩ = some z) (z1 : w2.cell? ⟨g, 1, none⟩ = some z) (z2 : w2.cell? ⟨g, 2, none⟩ = some z) (z3 : w2.cell? ⟨g, 3, none⟩ = some z) :
    Laid8 w g ((((w2.setCell ⟨g, 0, none⟩ (.int .u8 (a.toNat : Int))).setCell ⟨g, 1, none⟩ (.int .u8 (b.toNat : Int))).setCell ⟨g, 2, none⟩ (.int .u8 (c.toNat : Int))).setCell ⟨g, 3, none⟩ (.int .u8 (d.toNat : Int))) [a, b, c, d] := by
  refine ⟨lo, by simpa [World.setCell] using hi, ?_, fun j u hj => ?_⟩
  · exact (((h.setCell lo _).setCell lo _).setCell lo _).setCell lo _
  · rw [show (⟨g, 0, none⟩ : Addr).add j = ⟨g, j, none⟩ from by cases j <;> simp [Addr.add]]
    have hj4 : j < 4 := by
      obtain ⟨h1, _⟩ := List.getElem?_eq_some_iff.1 hj
      simpa [Lib.byteCells] using h1
    rcases (show j = 0 ∨ j = 1 ∨ j = 2 ∨ j = 3 by omega) with rfl | rfl | rfl | rfl <;> (simp [Lib.byteCells] at hj; subst hj; simp [go_sem, z0, z1, z2, z3])

theorem fours_len : ∀ l : List UInt8, (fours l).length ≤ 2 * l.length
  | [] => by simp [fours]
  | [a] => by simp [fours]
  | [a, b] => by simp [fours]
  | a :: b :: c :: t => by
    have := fours_len t
    rw [fours, List.length_append, four_len]; simp only [List.length_cons]; omega

def Enc8 (w w1 : World) (xs : List UInt8) (ov rv : Value) (wr : World) : Prop :=
  ∃ (acc r : List UInt8) (A2 : Option Addr) (cap2 : Nat), rv = .slice A2 r.length cap2 ∧ ByAt w1 w1.heap.size A2 r ∧ r.length ≤ cap2 ∧ cap2 ≤ maxLen ∧ r.length % 3 = 0 ∧ OwnB wr w1.heap.size ov acc ∧ acc ++ fours r = fours (padL 3 0 xs) ∧ Below w1.heap.size w1 wr

set_option maxRecDepth 100000 in
set_option maxHeartbeats 1000000 in
theorem benc_any (A : Option Addr) (xs : List UInt8) (cap : Nat) (w : World) (hx : ByAt w w.heap.size A xs) (hc : xs.length ≤ cap) (hm : xs.length ≤ 1000000) :
    Calls Try.prog 10 #[.slice A xs.length cap] w fun e w' => e = .returned (.string (b64S xs)) ∧ Below w.heap.size w w' := by
  obtain ⟨i5, hi, hz0, hz1, hz2⟩ := info_has Try.infoByte
  have hf := bfilled_any A xs cap 3 (.inl rfl) 0 w hx hc hm
  have hpl : (padL 3 0 xs).length ≤ 1000002 := by have : lack 3 xs < 3 := by (unfold lack; omega)
                                                  simp [padL]; omega
  have hpm := pad_len 3 (by decide) 0 xs
  go_enter Try.func10, Try.ntmps10
  go_wp2_with fail
  refine hf.mono ?_
  rintro e w1 ⟨A1, cap1, rfl, h1, h2, h3, hb1⟩
  go_wp2_with fail
  have HP : Hid ((padL 3 0 xs).length ≤ 1000002) := hpl
  go_loopw [3, 4] (fun ov rv wr => Enc8 w w1 xs ov rv wr) (fun _ rv _ => sLen rv)
  case atStart => exact ⟨[], padL 3 0 xs, A1, cap1, rfl, h1, h2, h3, hpm, OwnB.nil _ _, by simp, Below.refl _ _⟩
  case round =>
    obtain ⟨acc, r, A2, cap2, rfl, hr, hrc, hrm, hmod, hown, hacc, hb⟩ := hrel
    by_cases hp : r.length = 0
    · obtain rfl := List.eq_nil_of_length_eq_zero hp
      have hacc' : acc = fours (padL 3 0 xs) := by rw [← hacc]; simp [fours]
      have htk := enc_fours xs
      rw [← hacc'] at htk
      have hbl := b64_len xs
      obtain ⟨m, hm0⟩ : ∃ m, m = xs.length + (xs.length + 2) / 3 := ⟨_, rfl⟩
      rw [← hm0] at htk
      have hml : (b64L xs).length = m := by rw [hbl]; omega
      have hma : m ≤ acc.length := by
        have := congrArg List.length htk
        rw [List.length_take, hml] at this; omega
      obtain ⟨A3, cap3, rfl, hby, hc3, hm3⟩ := hown.byAt
      have hby2 := hby.take m
      rw [htk] at hby2
      have hcv := conv_bytes wr wr.heap.size A3 (b64L xs) cap3 hby2
      rw [hml] at hcv
      have hsl := slice_to A3 acc.length cap3 m (by omega)
      have hq : (xs.length : Int) + ((xs.length : Int) + 2) / 3 = (m : Int) := by omega
      have Hcv : Hid (b64S xs = ⟨(b64L xs).toArray⟩) := rfl
      clear hacc hacc' htk hbl hm0 hml hby hby2 hown hr hmod hpm hpl h1
      generalize (⟨(b64L xs).toArray⟩ : ByteArray) = st at *
      go_wp2_with fail
      go_ret
      exact ⟨ret_str Hcv.out.symm, hb1.trans (hb.mono hb1.size)⟩
    · obtain ⟨a, b, c, t, rfl⟩ := fours_ne r hmod hp
      obtain ⟨bb, oo, rfl, hbb, hcc⟩ : ∃ b' o, A2 = some ⟨b', o, none⟩ ∧ b' < w1.heap.size ∧ ∀ i, i < (a :: b :: c :: t).length → w1.cell? ⟨b', o + i, none⟩ = some (.int .u8 (((a :: b :: c :: t).getD i 0).toNat : Int)) := by
        rcases hr with h | h
        · simp at h
        · exact h
      have hl : (a :: b :: c :: t).length = t.length + 3 := by simp
      have c0 := (hb.cell (p := ⟨bb, oo, none⟩) hbb).trans (hcc 0 (by omega))
      have c1 := (hb.cell (p := ⟨bb, oo + 1, none⟩) hbb).trans (hcc 1 (by omega))
      have c2 := (hb.cell (p := ⟨bb, oo + 2, none⟩) hbb).trans (hcc 2 (by omega))
      simp only [List.getD_cons_zero, List.getD_cons_succ] at c0 c1 c2
      have hw := fun W => bwritten_any a.toNat b.toNat c.toNat a.toNat_lt b.toNat_lt c.toNat_lt W
      rw [hl] at *
      have Hacc : Hid (acc ++ fours (a :: b :: c :: t) = fours (padL 3 0 xs)) := hacc
      have HR : Hid (ByAt w1 w1.heap.size (some ⟨bb, oo, none⟩) (a :: b :: c :: t)) := hr
      have HO : Hid (OwnB wr w1.heap.size u3 acc) := hown
      have Hmod : Hid ((t.length + 3) % 3 = 0) := hmod
      have hn3 : 3 ≤ t.length + 3 := by omega
      have hnc : t.length + 3 ≤ cap2 := hrc
      clear hcc hr hacc hmod hpl hpm h1 hrc hown hl hp
      generalize hn0 : t.length + 3 = n at *
      have HN : Hid (t.length + 3 = n) := hn0
      clear hn0
      have n0 : (0 : Int) < (n : Int) := by omega
      have n1 : (1 : Int) < (n : Int) := by omega
      have n2 : (2 : Int) < (n : Int) := by omega
      have hsz := hb.size
      have hne : bb ≠ wr.heap.size := by omega
      go_wp2_with fail
      go_region_held3 (fun W => W.cell? ⟨bb, oo, none⟩ = some (.int .u8 (a.toNat : Int)) ∧ W.cell? ⟨bb, oo + 1, none⟩ = some (.int .u8 (b.toNat : Int)) ∧ W.cell? ⟨bb, oo + 2, none⟩ = some (.int .u8 (c.toNat : Int)))
        (with_reducible (first | exact ⟨c0, c1, c2⟩ | exact ⟨d0, d1, d2⟩ | exact ⟨cell_dr c0, cell_dr c1, cell_dr c2⟩ | exact ⟨cell_dr (cell_up c0), cell_dr (cell_up c1), cell_dr (cell_up c2)⟩ | exact ⟨cell_up d0, cell_up d1, cell_up d2⟩ | exact ⟨cell_put4 d0 hne, cell_put4 d1 hne, cell_put4 d2 hne⟩))
        (first
          | (go_at_call 14; refine (hw _).mono ?_; rintro e w2 ⟨rfl, hb2⟩; have hb3 : Below (wr.alloc (.cells #[.int .u8 0, .int .u8 0, .int .u8 0, .int .u8 0] 35)).drew.heap.size (wr.alloc (.cells #[.int .u8 0, .int .u8 0, .int .u8 0, .int .u8 0] 35)).drew w2 := hb2; obtain ⟨⟨⟨z0, z1, z2, z3⟩, y0, y1, y2, y3⟩, hs2, hb4⟩ := blk4 (undrew hb3); obtain ⟨d0, d1, d2⟩ := cells3 hb4 c0 c1 c2; clear hb2 hb3; have HB4 : Hid (Below wr.heap.size wr w2) := hb4; clear hb4)
          | (go_at_call 14; refine (hw _).mono ?_; rintro e w2 ⟨rfl, hb2⟩; have hb4 := undrew (wr := wr) (w2 := w2) hb2; obtain ⟨d0, d1, d2⟩ := cells3 hb4 c0 c1 c2; clear hb2; have HB4 : Hid (Below wr.heap.size wr w2) := hb4; clear hb4))
      · have hl8 := laid_new [sg (a.toNat / 4), sg (a.toNat % 4 * 16 + b.toNat / 16), sg (b.toNat % 16 * 4 + c.toNat / 64), sg (c.toNat % 64)] 35 #[.int .u8 ((sg (a.toNat / 4)).toNat : Int), .int .u8 ((sg (a.toNat % 4 * 16 + b.toNat / 16)).toNat : Int), .int .u8 ((sg (b.toNat % 16 * 4 + c.toNat / 64)).toNat : Int), .int .u8 ((sg (c.toNat % 64)).toNat : Int)] rfl HB4.out
        generalize (w2.alloc (.cells #[.int .u8 ((sg (a.toNat / 4)).toNat : Int), .int .u8 ((sg (a.toNat % 4 * 16 + b.toNat / 16)).toNat : Int), .int .u8 ((sg (b.toNat % 16 * 4 + c.toNat / 64)).toNat : Int), .int .u8 ((sg (c.toNat % 64)).toNat : Int)] 35)) = W8 at hl8 ⊢
        generalize w2.heap.size = g8 at hl8 ⊢
        clear HB4 d0 d1 d2
        have hs8 := hl8.bel.size
        have lo8 := hl8.lo
        have HL8 : Hid (Laid8 wr g8 W8 (four a.toNat b.toNat c.toNat)) := hl8
        have hsl := slice_from (some ⟨bb, oo, none⟩) n cap2 3 hn3
        obtain ⟨A3, hA3⟩ : ∃ A3, A3 = (if cap2 = 3 then some (⟨bb, oo, none⟩ : Addr) else (some (⟨bb, oo, none⟩ : Addr)).map (·.add 3)) := ⟨_, rfl⟩
        rw [← hA3] at hsl
        have HA3 : Hid (A3 = (if cap2 = 3 then some (⟨bb, oo, none⟩ : Addr) else (some (⟨bb, oo, none⟩ : Addr)).map (·.add 3))) := hA3
        have hal : acc.length ≤ 2100000 := by
          have h1 := congrArg List.length Hacc.out
          have h2 := fours_len (padL 3 0 xs)
          have h3 := HP.out
          rw [List.length_append] at h1
          omega
        clear hl8 hA3 hw
        go_wp2_with (at_builtin; refine wpList_append_any _ rfl _ _ 22 rfl w1.heap.size 5 i5 (.int .u8 0) 1 1 Try.underlying22 hi hz0 hz1 hz2 rfl (by decide) u3 acc.length (Lib.byteCells acc) rfl ?own (some ⟨g8, 0, none⟩) 4 4 (Lib.byteCells (four a.toNat b.toNat c.toNat)) rfl ?src ?c3 ?c4 ?c5 ?_)
        case own => exact HO.out.below HL8.out.bel
        case src => exact .inr ⟨_, rfl, rfl, HL8.out.cells, by simp [Value.oneCell', Lib.byteCells]⟩
        case c3 => unfold maxLen; omega
        case c4 => omega
        case c5 => omega
        intro v6 w6 hown6 hgrow6 hat6
        have O6 : Hid (OwnB w6 w1.heap.size v6 (acc ++ four a.toNat b.toNat c.toNat)) := append_end hown6 rfl rfl
        have B6 : Hid (Below w1.heap.size w1 w6) := hb.trans ((HL8.out.bel.mono hsz).trans ((Grew.step (Grew.refl W8 u3) hgrow6 hat6).toBelow (fun q hq => (HO.out.base q hq).1) (by omega)))
        clear hown6 hgrow6 hat6
        go_wp2_with fail
        go_roundw
        case rel =>
          have hn := HN.out
          have hdr := HR.out.drop 3 cap2 (by simp) (by simpa [hn] using hnc)
          rw [← HA3.out] at hdr
          refine ⟨_, t, A3, cap2 - 3, ?_, hdr, by omega, by omega, by have := Hmod.out; omega, O6.out, ?_, B6.out⟩
          · rw [show n - 3 = t.length from by omega, HA3.out]; simp [Addr.add]
          · rw [List.append_assoc]; exact Hacc.out
        case measure => show n - 3 < n; omega
      · have hl8 := laid_put4 (sg (a.toNat / 4)) (sg (a.toNat % 4 * 16 + b.toNat / 16)) (sg (b.toNat % 16 * 4 + c.toNat / 64)) (sg (c.toNat % 64)) _ HB4.out (Nat.le_refl _) hs2 z0 z1 z2 z3
        generalize ((((w2.setCell ⟨wr.heap.size, 0, none⟩ (.int .u8 ((sg (a.toNat / 4)).toNat : Int))).setCell ⟨wr.heap.size, 1, none⟩ (.int .u8 ((sg (a.toNat % 4 * 16 + b.toNat / 16)).toNat : Int))).setCell ⟨wr.heap.size, 2, none⟩ (.int .u8 ((sg (b.toNat % 16 * 4 + c.toNat / 64)).toNat : Int))).setCell ⟨wr.heap.size, 3, none⟩ (.int .u8 ((sg (c.toNat % 64)).toNat : Int))) = W8 at hl8 ⊢
        obtain ⟨g8, hg8⟩ : ∃ g, g = wr.heap.size := ⟨_, rfl⟩
        rw [← hg8] at hl8 ⊢
        clear hg8 HB4 d0 d1 d2 z0 z1 z2 z3 y0 y1 y2 y3
        have hs8 := hl8.bel.size
        have lo8 := hl8.lo
        have HL8 : Hid (Laid8 wr g8 W8 (four a.toNat b.toNat c.toNat)) := hl8
        have hsl := slice_from (some ⟨bb, oo, none⟩) n cap2 3 hn3
        obtain ⟨A3, hA3⟩ : ∃ A3, A3 = (if cap2 = 3 then some (⟨bb, oo, none⟩ : Addr) else (some (⟨bb, oo, none⟩ : Addr)).map (·.add 3)) := ⟨_, rfl⟩
        rw [← hA3] at hsl
        have HA3 : Hid (A3 = (if cap2 = 3 then some (⟨bb, oo, none⟩ : Addr) else (some (⟨bb, oo, none⟩ : Addr)).map (·.add 3))) := hA3
        have hal : acc.length ≤ 2100000 := by
          have h1 := congrArg List.length Hacc.out
          have h2 := fours_len (padL 3 0 xs)
          have h3 := HP.out
          rw [List.length_append] at h1
          omega
        clear hl8 hA3 hw
        go_wp2_with (at_builtin; refine wpList_append_any _ rfl _ _ 22 rfl w1.heap.size 5 i5 (.int .u8 0) 1 1 Try.underlying22 hi hz0 hz1 hz2 rfl (by decide) u3 acc.length (Lib.byteCells acc) rfl ?own (some ⟨g8, 0, none⟩) 4 4 (Lib.byteCells (four a.toNat b.toNat c.toNat)) rfl ?src ?c3 ?c4 ?c5 ?_)
        case own => exact HO.out.below HL8.out.bel
        case src => exact .inr ⟨_, rfl, rfl, HL8.out.cells, by simp [Value.oneCell', Lib.byteCells]⟩
        case c3 => unfold maxLen; omega
        case c4 => omega
        case c5 => omega
        intro v6 w6 hown6 hgrow6 hat6
        have O6 : Hid (OwnB w6 w1.heap.size v6 (acc ++ four a.toNat b.toNat c.toNat)) := append_end hown6 rfl rfl
        have B6 : Hid (Below w1.heap.size w1 w6) := hb.trans ((HL8.out.bel.mono hsz).trans ((Grew.step (Grew.refl W8 u3) hgrow6 hat6).toBelow (fun q hq => (HO.out.base q hq).1) (by omega)))
        clear hown6 hgrow6 hat6
        go_wp2_with fail
        go_roundw
        case rel =>
          have hn := HN.out
          have hdr := HR.out.drop 3 cap2 (by simp) (by simpa [hn] using hnc)
          rw [← HA3.out] at hdr
          refine ⟨_, t, A3, cap2 - 3, ?_, hdr, by omega, by omega, by have := Hmod.out; omega, O6.out, ?_, B6.out⟩
          · rw [show n - 3 = t.length from by omega, HA3.out]; simp [Addr.add]
          · rw [List.append_assoc]; exact Hacc.out
        case measure => show n - 3 < n; omega

end Go.Proofs.Ytffhbgakoibgnaa
