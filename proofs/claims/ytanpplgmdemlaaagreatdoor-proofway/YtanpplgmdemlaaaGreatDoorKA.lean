import Derived.Test.YtanpplgmdemlaaaGreatDoorK2
import Derived.MapKept
import Derived.Carry
namespace Go.Proofs.YtanpplgmdemlaaaGreatDoor
open Go.RowKit
set_option linter.unusedVariables false
set_option linter.unusedSimpArgs false

def PKOk (a : Nd) (l : Fo) : Prop := ∀ (v u : Value) (xs : List UInt8) (B B' : Nat) (w : World), RepV w B a l v → OwnB w B' u xs → B ≤ B' → B' ≤ w.heap.size → xs.length + (keyT a l).length ≤ 1000000 → Tab10 B' w →
    Calls Tryz.prog 58 #[u, v] w fun e w' => ∃ u', e = .returned u' ∧ OwnB w' B' u' (xs ++ keyT a l) ∧ KeptU B' w w'

def PKRel (w : World) (B B' b o : Nat) (xs : List UInt8) (a : Nd) (l : Fo) (bv iv : Value) (wr : World) : Prop :=
  ∃ (i : Nat) (g : Fo) (ys : List UInt8), iv = .int .i64 (i : Int) ∧ i + flen g = flen l ∧ AllF PKOk g ∧ RepF wr B g b (o + i * 4) ∧ OwnB wr B' bv ys ∧ KeptU B' w wr ∧ ys ++ keyF g = xs ++ keyT a l

theorem box_of_block {w : World} {k : Nat} {v0 v1 v2 v3 : Value} {T : TypeId} {fr : Nat × Nat} (h : w.heap[k]? = some (.cells #[v0, v1, v2, v3] T fr)) : Box4 w k v0 v1 v2 v3 := by
  have hk : k < w.heap.size := (Array.getElem?_eq_some_iff.1 h).1
  refine ⟨hk, ?_, ?_, ?_, ?_⟩ <;> simp [World.cell?, h]

set_option maxRecDepth 100000 in
set_option maxHeartbeats 4000000 in
theorem pk_step (a : Nd) (l : Fo) (ih : AllF PKOk l) : PKOk a l := by
  rintro v u xs B B' w ⟨hf, A, cap, b, o, rfl, hn, hA, hr⟩ hown hBB hB hbig htab
  have HA : Hid (flen l = 0 ∨ A = some ⟨b, o, none⟩) := hA
  obtain ⟨f1, f2, f3, f4, f5⟩ := hf
  have hhb : (keyT a l).length = (keyH a).length + (keyF l).length := by rw [keyT, List.length_append]
  have hbx : (w.alloc (.cells #[.int .i64 a.kind, .int .i64 a.n, .string a.s, .slice A (flen l) cap] 27)).heap[w.heap.size]? = some (.cells #[.int .i64 a.kind, .int .i64 a.n, .string a.s, .slice A (flen l) cap] 27 (0, 0)) := heap_alloc_new w _
  have HBX : Hid _ := hbx
  have hka : KeptU B' w (w.alloc (.cells #[.int .i64 a.kind, .int .i64 a.n, .string a.s, .slice A (flen l) cap] 27)) := (KeptU.refl B' w).alloc hB _
  have HTB : Hid (∀ W, KeptU B' w W → Tab10 B' W) := fun W hW => htab.on hW.below
  have HRF : Hid (∀ W, KeptU B' w W → RepF W B l b o) := fun W hW => RepF.keep (Nat.le_refl _) (fun q j hq => hW.below.cell (by simp; omega)) hr
  clear hA hbx hr htab
  obtain ⟨i5, hi, hz0, hz1, hz2⟩ := info_has Tryz.infoByte
  go_enter Tryz.func58, Tryz.ntmps58
  go_wp2_with fail
  refine (putNumK _ u xs a.kind B' (hown.alloc _) (by simp; omega) (by omega) f1 f2 (HTB.out _ hka)).mono ?_
  rintro e w1 ⟨v1, rfl, ho1, hk1⟩
  have hb1 := hk1.box HBX.out
  obtain ⟨x0, x1, x2, x3, x4⟩ := box_of_block hb1
  have HB1 : Hid _ := hb1
  have HO1 : Hid (OwnB w1 B' v1 (xs ++ numB a.kind)) := ho1
  have HK1 : Hid (KeptU B' w w1) := hka.trans hk1
  have hs1 : B' ≤ w1.heap.size := by have := HK1.out.size; omega
  have hnum : (numB a.kind).length ≤ (keyH a).length := by unfold keyH; simp
  clear hb1 ho1 hk1 HBX hown
  by_cases h1 : a.kind = 1
  · have hhd : keyH a = numB a.kind ++ (numB (a.s.size : Int) ++ a.s.data.toList) := by unfold keyH; rw [if_pos h1]
    have hsl : a.s.data.toList.length = a.s.size := by rw [Array.length_toList]; rfl
    have hhl : (keyH a).length = (numB a.kind).length + ((numB (a.s.size : Int)).length + a.s.size) := by rw [hhd]; simp [hsl]
    have Hhd : Hid (keyH a = numB a.kind ++ (numB (a.s.size : Int) ++ a.s.data.toList)) := hhd
    clear hhd
    go_wp2_with fail
    refine (putNumK w1 v1 _ (a.s.size : Int) B' HO1.out hs1 (by rw [List.length_append]; omega) (by omega) (by omega) (HTB.out _ HK1.out)).mono ?_
    rintro e w2 ⟨v2, rfl, ho2, hk2⟩
    have hb2 := hk2.box HB1.out
    obtain ⟨y0, y1, y2, y3, y4⟩ := box_of_block hb2
    have HB2 : Hid _ := hb2
    have HK2 : Hid (KeptU B' w w2) := HK1.out.trans hk2
    have hs2 : B' ≤ w2.heap.size := by have := HK2.out.size; omega
    clear hb2 hk2 x0 x1 x2 x3 x4 HO1 HB1 HK1
    obtain ⟨zs, hzs⟩ : ∃ zs : List UInt8, zs = xs ++ numB a.kind ++ numB (a.s.size : Int) := ⟨_, rfl⟩
    have hl2 : zs.length + a.s.size ≤ 1000000 := by rw [hzs]; simp only [List.length_append]; omega
    rw [← hzs] at ho2
    have Hzs : Hid (zs = xs ++ numB a.kind ++ numB (a.s.size : Int)) := hzs
    clear hzs
    go_wp2_with (at_builtin; refine wpList_append_str _ rfl _ _ 96 9 rfl B' 5 i5 Tryz.underlying96 Tryz.underlying9 hi hz0 hz1 hz2 v2 _ _ rfl ho2 a.s rfl ?d1 ?d2 ?d3 ?_)
    case d1 => unfold maxLen; omega
    case d2 => omega
    case d3 => omega
    intro v3 w3 hown3 hgrow3 hat3
    have HO : Hid (OwnB w3 B' v3 (xs ++ keyH a)) := by
      have e1 : Lib.byteCells (xs ++ keyH a) = Lib.byteCells zs ++ Lib.strCells a.s := by
        rw [Hhd.out, Hzs.out]; simp [Lib.byteCells, Lib.strCells]
      have e2 : (xs ++ keyH a).length = zs.length + a.s.size := by
        rw [Hhd.out, Hzs.out]; simp only [List.length_append, hsl]; omega
      show World.ownsRow _ _ _ _ _ _ _
      rw [e1, e2]; exact hown3
    have hk3 : KeptU B' w2 w3 := ⟨⟨hgrow3.os, hgrow3.tape, hgrow3.output, hgrow3.size, fun q hq => hgrow3.block q (by omega) (fun e => by have := (World.ownsRow.lt ho2 q e.symm).1; omega)⟩, (Lib.OthersKept.refl _ _ _).grown hgrow3 (owns_row ho2)⟩
    have HK : Hid (KeptU B' w w3) := HK2.out.trans hk3
    obtain ⟨z0, z1, z2, z3, z4⟩ := box_of_block (hk3.box HB2.out)
    clear hown3 hgrow3 hat3 hk3 y0 y1 y2 y3 y4 ho2 HB2 HK2
    go_wp2_with fail
    · go_loopw [0, 33] (fun bv iv wr => PKRel w B B' b o xs a l bv iv wr) (fun _ iv _ => flen l - (intOf iv).toNat)
      case atStart => exact ⟨0, l, _, rfl, by simp, ih, by rw [show o + 0 * 4 = o from by omega]; exact HRF.out _ HK.out, HO.out, HK.out, by rw [keyT, List.append_assoc]⟩
      case round =>
        obtain ⟨i, g, ys, rfl, hi', hg1, hrg, hoy, hkr, hys⟩ := hrel
        have HY : Hid (ys ++ keyF g = xs ++ keyT a l) := hys
        have HO2 : Hid (OwnB wr B' u0 ys) := hoy
        have HK2 : Hid (KeptU B' w wr) := hkr
        have hlen : ys.length + (keyF g).length = xs.length + (keyT a l).length := by have := congrArg List.length hys; simpa using this
        have hsz : B' ≤ wr.heap.size := by have := hkr.size; omega
        clear hys hoy hkr HO HK
        cases g with
        | nil =>
          simp only [flen] at hi'
          go_wp2_with fail
          go_ret
          refine ⟨_, rfl, ?_, HK2.out⟩
          have := HY.out; rw [keyF, List.append_nil] at this; rw [← this]; exact HO2.out
        | node b1 o1 a1 l1 r1 =>
          obtain ⟨hb1, hf1, e0, e1, e2, ⟨A1, cap1, b2, o2, e3, hn1, hA1, hl1⟩, hr1⟩ := hrg
          obtain ⟨hw1, hgr1⟩ := hg1
          rw [keyF_node, List.length_append] at hlen
          simp only [flen] at hi'
          obtain rfl : A = some ⟨b, o, none⟩ := by rcases HA.out with h | h; omega; exact h
          have HA1 : Hid (flen l1 = 0 ∨ A1 = some ⟨b2, o2, none⟩) := hA1
          clear hA1
          have hal : KeptU B' wr (wr.alloc (.cells #[.int .i64 a1.kind, .int .i64 a1.n, .string a1.s, .slice A1 (flen l1) cap1] 27)) := (KeptU.refl B' wr).alloc hsz _
          go_wp2_with fail
          refine (hw1 _ _ ys B B' _ ⟨hf1, A1, cap1, b2, o2, rfl, hn1, HA1.out, hl1.below (hal.below.mono hBB)⟩ (HO2.out.alloc _) hBB (by simp; omega) (by omega) (HTB.out _ (HK2.out.trans hal))).mono ?_
          rintro e w7 ⟨u1, rfl, ho7, hk7⟩
          have HO3 : Hid (OwnB w7 B' u1 (ys ++ keyT a1 l1)) := ho7
          have HK3 : Hid (KeptU B' wr w7) := hal.trans hk7
          have hr2 : RepF w7 B r1 b (o + i * 4 + 4) := RepF.keep (Nat.le_refl _) (fun q j hq => HK3.out.below.cell (by simp; omega)) hr1
          clear ho7 hk7 hal e0 e1 e2 e3
          go_wp2_with fail
          go_roundw
          case rel =>
            refine ⟨i + 1, r1, ys ++ keyT a1 l1, by go_num, by omega, hgr1, ?_, HO3.out, HK2.out.trans HK3.out, ?_⟩
            · rw [show o + (i + 1) * 4 = o + i * 4 + 4 from by omega]; exact hr2
            · rw [← HY.out, keyF_node, List.append_assoc]
          case measure => simp [intOf]; omega
  by_cases h2 : a.kind = 2
  · have hhd : keyH a = numB a.kind ++ numB a.n := by unfold keyH; rw [if_neg h1, if_pos h2]
    have hhl : (keyH a).length = (numB a.kind).length + (numB a.n).length := by rw [hhd]; simp
    have k1 : (a.kind == 1) = false := by simp [h1]
    have k2 : (a.kind == 2) = true := by simp [h2]
    go_wp2_with fail
    refine (putNumK w1 v1 _ a.n B' HO1.out hs1 (by rw [List.length_append]; omega) f3 f4 (HTB.out _ HK1.out)).mono ?_
    rintro e w2 ⟨v2, rfl, ho2, hk2⟩
    obtain ⟨z0, z1, z2, z3, z4⟩ := box_of_block (hk2.box HB1.out)
    have HK : Hid (KeptU B' w w2) := HK1.out.trans hk2
    have HO : Hid (OwnB w2 B' v2 (xs ++ keyH a)) := by show OwnB w2 B' v2 (xs ++ keyH a); rw [hhd, ← List.append_assoc]; exact ho2
    clear hk2 x0 x1 x2 x3 x4 HO1 HB1 HK1 ho2 k1 k2 hhd
    go_wp2_with fail
    · go_loopw [0, 33] (fun bv iv wr => PKRel w B B' b o xs a l bv iv wr) (fun _ iv _ => flen l - (intOf iv).toNat)
      case atStart => exact ⟨0, l, _, rfl, by simp, ih, by rw [show o + 0 * 4 = o from by omega]; exact HRF.out _ HK.out, HO.out, HK.out, by rw [keyT, List.append_assoc]⟩
      case round =>
        obtain ⟨i, g, ys, rfl, hi', hg1, hrg, hoy, hkr, hys⟩ := hrel
        have HY : Hid (ys ++ keyF g = xs ++ keyT a l) := hys
        have HO2 : Hid (OwnB wr B' u0 ys) := hoy
        have HK2 : Hid (KeptU B' w wr) := hkr
        have hlen : ys.length + (keyF g).length = xs.length + (keyT a l).length := by have := congrArg List.length hys; simpa using this
        have hsz : B' ≤ wr.heap.size := by have := hkr.size; omega
        clear hys hoy hkr HO HK
        cases g with
        | nil =>
          simp only [flen] at hi'
          go_wp2_with fail
          go_ret
          refine ⟨_, rfl, ?_, HK2.out⟩
          have := HY.out; rw [keyF, List.append_nil] at this; rw [← this]; exact HO2.out
        | node b1 o1 a1 l1 r1 =>
          obtain ⟨hb1, hf1, e0, e1, e2, ⟨A1, cap1, b2, o2, e3, hn1, hA1, hl1⟩, hr1⟩ := hrg
          obtain ⟨hw1, hgr1⟩ := hg1
          rw [keyF_node, List.length_append] at hlen
          simp only [flen] at hi'
          obtain rfl : A = some ⟨b, o, none⟩ := by rcases HA.out with h | h; omega; exact h
          have HA1 : Hid (flen l1 = 0 ∨ A1 = some ⟨b2, o2, none⟩) := hA1
          clear hA1
          have hal : KeptU B' wr (wr.alloc (.cells #[.int .i64 a1.kind, .int .i64 a1.n, .string a1.s, .slice A1 (flen l1) cap1] 27)) := (KeptU.refl B' wr).alloc hsz _
          go_wp2_with fail
          refine (hw1 _ _ ys B B' _ ⟨hf1, A1, cap1, b2, o2, rfl, hn1, HA1.out, hl1.below (hal.below.mono hBB)⟩ (HO2.out.alloc _) hBB (by simp; omega) (by omega) (HTB.out _ (HK2.out.trans hal))).mono ?_
          rintro e w7 ⟨u1, rfl, ho7, hk7⟩
          have HO3 : Hid (OwnB w7 B' u1 (ys ++ keyT a1 l1)) := ho7
          have HK3 : Hid (KeptU B' wr w7) := hal.trans hk7
          have hr2 : RepF w7 B r1 b (o + i * 4 + 4) := RepF.keep (Nat.le_refl _) (fun q j hq => HK3.out.below.cell (by simp; omega)) hr1
          clear ho7 hk7 hal e0 e1 e2 e3
          go_wp2_with fail
          go_roundw
          case rel =>
            refine ⟨i + 1, r1, ys ++ keyT a1 l1, by go_num, by omega, hgr1, ?_, HO3.out, HK2.out.trans HK3.out, ?_⟩
            · rw [show o + (i + 1) * 4 = o + i * 4 + 4 from by omega]; exact hr2
            · rw [← HY.out, keyF_node, List.append_assoc]
          case measure => simp [intOf]; omega
  · have hhd : keyH a = numB a.kind := by unfold keyH; rw [if_neg h1, if_neg h2, List.append_nil]
    have HO : Hid (OwnB w1 B' v1 (xs ++ keyH a)) := by show OwnB w1 B' v1 (xs ++ keyH a); rw [hhd]; exact HO1.out
    have HK : Hid (KeptU B' w w1) := HK1.out
    have k1 : (a.kind == 1) = false := by simp [h1]
    have k2 : (a.kind == 2) = false := by simp [h2]
    clear HO1 HB1 HK1 hhd
    go_wp2_with fail
    clear k1 k2
    · go_loopw [0, 33] (fun bv iv wr => PKRel w B B' b o xs a l bv iv wr) (fun _ iv _ => flen l - (intOf iv).toNat)
      case atStart => exact ⟨0, l, _, rfl, by simp, ih, by rw [show o + 0 * 4 = o from by omega]; exact HRF.out _ HK.out, HO.out, HK.out, by rw [keyT, List.append_assoc]⟩
      case round =>
        obtain ⟨i, g, ys, rfl, hi', hg1, hrg, hoy, hkr, hys⟩ := hrel
        have HY : Hid (ys ++ keyF g = xs ++ keyT a l) := hys
        have HO2 : Hid (OwnB wr B' u0 ys) := hoy
        have HK2 : Hid (KeptU B' w wr) := hkr
        have hlen : ys.length + (keyF g).length = xs.length + (keyT a l).length := by have := congrArg List.length hys; simpa using this
        have hsz : B' ≤ wr.heap.size := by have := hkr.size; omega
        clear hys hoy hkr HO HK
        cases g with
        | nil =>
          simp only [flen] at hi'
          go_wp2_with fail
          go_ret
          refine ⟨_, rfl, ?_, HK2.out⟩
          have := HY.out; rw [keyF, List.append_nil] at this; rw [← this]; exact HO2.out
        | node b1 o1 a1 l1 r1 =>
          obtain ⟨hb1, hf1, e0, e1, e2, ⟨A1, cap1, b2, o2, e3, hn1, hA1, hl1⟩, hr1⟩ := hrg
          obtain ⟨hw1, hgr1⟩ := hg1
          rw [keyF_node, List.length_append] at hlen
          simp only [flen] at hi'
          obtain rfl : A = some ⟨b, o, none⟩ := by rcases HA.out with h | h; omega; exact h
          have HA1 : Hid (flen l1 = 0 ∨ A1 = some ⟨b2, o2, none⟩) := hA1
          clear hA1
          have hal : KeptU B' wr (wr.alloc (.cells #[.int .i64 a1.kind, .int .i64 a1.n, .string a1.s, .slice A1 (flen l1) cap1] 27)) := (KeptU.refl B' wr).alloc hsz _
          go_wp2_with fail
          refine (hw1 _ _ ys B B' _ ⟨hf1, A1, cap1, b2, o2, rfl, hn1, HA1.out, hl1.below (hal.below.mono hBB)⟩ (HO2.out.alloc _) hBB (by simp; omega) (by omega) (HTB.out _ (HK2.out.trans hal))).mono ?_
          rintro e w7 ⟨u1, rfl, ho7, hk7⟩
          have HO3 : Hid (OwnB w7 B' u1 (ys ++ keyT a1 l1)) := ho7
          have HK3 : Hid (KeptU B' wr w7) := hal.trans hk7
          have hr2 : RepF w7 B r1 b (o + i * 4 + 4) := RepF.keep (Nat.le_refl _) (fun q j hq => HK3.out.below.cell (by simp; omega)) hr1
          clear ho7 hk7 hal e0 e1 e2 e3
          go_wp2_with fail
          go_roundw
          case rel =>
            refine ⟨i + 1, r1, ys ++ keyT a1 l1, by go_num, by omega, hgr1, ?_, HO3.out, HK2.out.trans HK3.out, ?_⟩
            · rw [show o + (i + 1) * 4 = o + i * 4 + 4 from by omega]; exact hr2
            · rw [← HY.out, keyF_node, List.append_assoc]
          case measure => simp [intOf]; omega

theorem pk_all : ∀ f : Fo, AllF PKOk f
  | .nil => trivial
  | .node _ _ a l r => ⟨pk_step a l (pk_all l), pk_all r⟩

theorem pk_any (a : Nd) (l : Fo) : PKOk a l := pk_step a l (pk_all l)

end Go.Proofs.YtanpplgmdemlaaaGreatDoor

namespace Go.Proofs.YtanpplgmdemlaaaGreatDoor
open Go.RowKit
set_option linter.unusedVariables false
set_option linter.unusedSimpArgs false

theorem conv_own {w : World} {B : Nat} {v : Value} {zs : List UInt8} (h : OwnB w B v zs) : (convert 96 9 v).run Tryz.prog w = .ok (.string ⟨zs.toArray⟩) w := by
  obtain ⟨A, cap, rfl, hA, _, _⟩ := h.value
  rcases hA with h0 | ⟨g, rfl, _, _⟩
  · obtain rfl := List.eq_nil_of_length_eq_zero h0
    cases A with
    | none => rw [show ([] : List UInt8).length = 0 from rfl, run_convert_bytes_string w 96 9 5 none 0 cap Tryz.underlying96 Tryz.underlying5 Tryz.underlying9]; rfl
    | some a => exact run_convert_bytes_back (P := Tryz.prog) w 96 9 5 a cap [] Tryz.underlying96 Tryz.underlying5 Tryz.underlying9 (fun j hj => by simp at hj)
  · exact run_convert_bytes_back (P := Tryz.prog) w 96 9 5 ⟨g, 0, none⟩ cap zs Tryz.underlying96 Tryz.underlying5 Tryz.underlying9 (fun j hj => by
      have ea : (⟨g, 0, none⟩ : Addr).add j = ⟨g, j, none⟩ := by cases j <;> simp [Addr.add]
      have := World.ownsRow.cellAt h j (by omega)
      rw [ea, this]; simp [Lib.byteCells, List.getElem?_eq_getElem hj])

/-- A term's key, as a text. -/
def keyS (a : Nd) (l : Fo) : ByteArray := ⟨(keyT a l).toArray⟩

set_option maxRecDepth 100000 in
set_option maxHeartbeats 1000000 in
theorem key_any (a : Nd) (l : Fo) (v : Value) (w : World) (hv : RepV w w.heap.size a l v) (hbig : (keyT a l).length ≤ 1000000) (htab : Tab10 w.heap.size w) :
    Calls Tryz.prog 34 #[v] w fun e w' => e = .returned (.string (keyS a l)) ∧ Below w.heap.size w w' := by
  obtain ⟨hf, A, cap, b, o, rfl, hn, hA, hr⟩ := hv
  have HA : Hid (flen l = 0 ∨ A = some ⟨b, o, none⟩) := hA
  clear hA
  go_enter Tryz.func34, Tryz.ntmps34
  go_wp2_with fail
  have hba : Below w.heap.size w (w.alloc (.cells #[.int .i64 a.kind, .int .i64 a.n, .string a.s, .slice A (flen l) cap] 27)) := Below.alloc (Below.refl _ _) (Nat.le_refl _) _
  refine (pk_any a l _ _ [] w.heap.size w.heap.size _ ⟨hf, A, cap, b, o, rfl, hn, HA.out, hr.below hba⟩ (OwnB.nil _ _) (Nat.le_refl _) (by simp) (by simpa using hbig) (htab.on hba)).mono ?_
  rintro e w1 ⟨u1, rfl, ho1, hk1⟩
  rw [List.nil_append] at ho1
  have hcv := conv_own ho1
  have hb1 : Below w.heap.size w w1 := hba.trans hk1.below
  clear ho1 hk1 hba
  obtain ⟨S, hS⟩ : ∃ S : ByteArray, S = keyS a l := ⟨_, rfl⟩
  have hcv' : (convert 96 9 u1).run Tryz.prog w1 = .ok (.string S) w1 := by rw [hS]; exact hcv
  have HS : Hid (S = keyS a l) := hS
  clear hcv hS
  go_wp2_with fail
  go_ret
  exact ⟨ret_str HS.out, hb1⟩

end Go.Proofs.YtanpplgmdemlaaaGreatDoor

namespace Go.Proofs.YtanpplgmdemlaaaGreatDoor
open Go.RowKit
set_option linter.unusedVariables false
set_option linter.unusedSimpArgs false

/-- In block r lies a map of the texts S, each to true. -/
def MapS (w : World) (r : Nat) (S : List ByteArray) : Prop :=
  ∃ (es : Array MapEntry) (clock : Nat), w.heap[r]? = some (.map es clock) ∧ (∀ s, s ∈ S ↔ ∃ e ∈ es.toList, e.key = .string s) ∧ ∀ e ∈ es.toList, ∃ s, e.key = .string s ∧ e.val = .bool true

theorem MapS.block {w w' : World} {r : Nat} {S : List ByteArray} (h : MapS w r S) (hb : w'.heap[r]? = w.heap[r]?) : MapS w' r S := by
  obtain ⟨es, clock, h1, h2⟩ := h
  exact ⟨es, clock, by rw [hb]; exact h1, h2⟩
theorem MapS.lt {w : World} {r : Nat} {S : List ByteArray} (h : MapS w r S) : r < w.heap.size := by
  obtain ⟨es, clock, h1, _⟩ := h
  exact (Array.getElem?_eq_some_iff.1 h1).1
theorem MapS.new (w : World) : MapS (w.alloc (.map #[] 0)) w.heap.size [] := ⟨#[], 0, heap_alloc_new w _, by simp, by simp⟩
theorem MapS.same {w : World} {r : Nat} {S S' : List ByteArray} (h : MapS w r S) (hs : ∀ s, s ∈ S ↔ s ∈ S') : MapS w r S' := by
  obtain ⟨es, clock, h1, h2, h3⟩ := h
  exact ⟨es, clock, h1, fun s => (hs s).symm.trans (h2 s), h3⟩

theorem MapS.find {w : World} {r : Nat} {S : List ByteArray} (h : MapS w r S) (s : ByteArray) :
    ∃ (es : Array MapEntry) (clock : Nat), w.heap[r]? = some (.map es clock) ∧ (∀ s, s ∈ S ↔ ∃ e ∈ es.toList, e.key = .string s) ∧ (∀ e ∈ es.toList, ∃ s, e.key = .string s ∧ e.val = .bool true) ∧
      ((Instr.findNow .string (.string s) es.toList 0 = some none ∧ s ∉ S) ∨ (∃ j, Instr.findNow .string (.string s) es.toList 0 = some (some (j, .bool true)) ∧ s ∈ S)) := by
  obtain ⟨es, clock, h1, h2, h3⟩ := h
  refine ⟨es, clock, h1, h2, h3, ?_⟩
  rcases MapKept.findNow_spec (d := .string) (k := .string s) trivial es.toList 0 (fun x hx => by obtain ⟨s', e, _⟩ := h3 x hx; rw [e]; trivial) with ⟨f1, f2⟩ | ⟨j, e, f1, f2, f3⟩
  · refine .inl ⟨f1, fun hs => ?_⟩
    obtain ⟨e, he, hk⟩ := (h2 s).1 hs
    exact f2 e he hk
  · have hm := List.mem_of_getElem? f2
    obtain ⟨s', e1, e2⟩ := h3 e hm
    exact .inr ⟨0 + j, by rw [f1, e2], (h2 s).2 ⟨e, hm, f3⟩⟩

theorem zero_bool (w : World) : (zeroValue 4).run Tryz.prog w = .ok (.bool false) w := by kernel_rfl

/-- known[s]. -/
theorem run_known {w : World} {r : Nat} {S : List ByteArray} (h : MapS w r S) (s : ByteArray) (b : Bool) (hb : b = true ↔ s ∈ S) :
    (Instr.lookup 65 (.map (some r)) (.string s) false).run Tryz.prog w = .ok (.bool b) w := by
  obtain ⟨es, clock, h1, h2, h3, hf⟩ := h.find s
  have hu : Tryz.prog.underlying 65 = some (.map 9 4) := by kernel_rfl
  have hck : (Instr.checkKey es.isEmpty 10000 9 (.string s)).run Tryz.prog w = .ok () w := MapKept.run_checkKey (d := .string) Tryz.underlying9 (show MapKept.IsKey .string (.string s) from trivial) es.isEmpty 9999
  rcases hf with ⟨f1, f2⟩ | ⟨j, f1, f2⟩
  · have : b = false := by cases b; rfl; exact absurd (hb.1 rfl) f2
    subst this
    simp [Instr.lookup, run_underlying hu, MapKept.run_getObj_map h1, hck, MapKept.run_findKey Tryz.underlying9 f1, zero_bool, Result.andThen]
  · have : b = true := hb.2 f2
    subst this
    simp [Instr.lookup, run_underlying hu, MapKept.run_getObj_map h1, hck, MapKept.run_findKey Tryz.underlying9 f1, Result.andThen]

/-- known[s] = true, where it is not there. -/
theorem run_mark {w : World} {r : Nat} {S : List ByteArray} (h : MapS w r S) (s : ByteArray) (hs : s ∉ S) :
    ∃ w', (Instr.mapUpdate 65 (.map (some r)) (.string s) (.bool true)).run Tryz.prog w = .ok () w' ∧ MapS w' r (s :: S) ∧ Only r w w' := by
  obtain ⟨es, clock, h1, h2, h3, hf⟩ := h.find s
  have hu : Tryz.prog.underlying 65 = some (.map 9 4) := by kernel_rfl
  have hck : (Instr.checkKey false 10000 9 (.string s)).run Tryz.prog w = .ok () w := MapKept.run_checkKey (d := .string) Tryz.underlying9 (show MapKept.IsKey .string (.string s) from trivial) false 9999
  rcases hf with ⟨f1, f2⟩ | ⟨j, f1, f2⟩
  · refine ⟨{ w with heap := w.heap.setIfInBounds r (.map (es.push { key := .string s, val := .bool true, born := clock }) (clock + 1)) }, ?_, ?_, ?_⟩
    · simp [Instr.mapUpdate, run_underlying hu, MapKept.run_getObj_map h1, hck, MapKept.run_findKey Tryz.underlying9 f1, MapKept.run_setObj_map _ h1, Result.andThen]
    · refine ⟨_, _, (MapKept.heap_set h1).1, fun s' => ?_, fun e he => ?_⟩
      · simp only [Array.toList_push, List.mem_append, List.mem_cons, List.not_mem_nil, or_false]
        constructor
        · rintro (rfl | h')
          · exact ⟨_, .inr rfl, rfl⟩
          · obtain ⟨e, he, hk⟩ := (h2 s').1 h'; exact ⟨e, .inl he, hk⟩
        · rintro ⟨e, he | rfl, hk⟩
          · exact .inr ((h2 s').2 ⟨e, he, hk⟩)
          · simp only [Value.string.injEq] at hk; exact .inl hk.symm
      · simp only [Array.toList_push, List.mem_append, List.mem_cons, List.not_mem_nil, or_false] at he
        rcases he with he | rfl
        · exact h3 e he
        · exact ⟨s, rfl, rfl⟩
    · refine ⟨rfl, rfl, rfl, by simp, fun k hk hne => (MapKept.heap_set h1).2 k hne⟩
  · exact absurd f2 hs

end Go.Proofs.YtanpplgmdemlaaaGreatDoor
