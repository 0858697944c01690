import Derived.Test.YtihfhmlgfacoiaaM2
namespace Go.Proofs.Ytihfhmlgfacoiaa
open Go.RowKit
set_option linter.unusedVariables false
set_option linter.unusedSimpArgs false

def IntsV (w : World) (B : Nat) (u : Value) (zs : List Int) : Prop :=
  (zs = [] ∧ u = .slice none 0 0) ∨ ∃ g c, u = .slice (some ⟨g, 0, none⟩) zs.length c ∧ 0 < zs.length ∧ zs.length ≤ c ∧ c ≤ 9223372036854775807 ∧ B ≤ g ∧ RowI w g zs

theorem IntsV.below {w w' : World} {B : Nat} {u : Value} {zs : List Int} (h : IntsV w B u zs) (hb : Below w.heap.size w w') : IntsV w' B u zs := by
  rcases h with h | ⟨g, c, h1, h2, h3, h4, h5, h6⟩
  · exact .inl h
  · exact .inr ⟨g, c, h1, h2, h3, h4, h5, h6.below hb⟩

theorem IntsV.len {w : World} {B : Nat} {u : Value} {zs : List Int} (h : IntsV w B u zs) : ∃ A c, u = .slice A zs.length c ∧ (zs.length = 0 ∨ ∃ g, A = some ⟨g, 0, none⟩ ∧ RowI w g zs) := by
  rcases h with ⟨rfl, rfl⟩ | ⟨g, c, rfl, h2, h3, h4, h5, h6⟩
  · exact ⟨none, 0, rfl, .inl rfl⟩
  · exact ⟨_, _, rfl, .inr ⟨g, rfl, h6⟩⟩

/-- zs rises and has just the numbers of xs. -/
def NonOf (xs zs : List Int) : Prop := zs.Pairwise (· < ·) ∧ (∀ x, x ∈ zs ↔ x ∈ xs) ∧ zs.length ≤ xs.length

theorem NonOf.ins {xs zs ys : List Int} {n : Int} (h : NonOf xs zs) (hi : InsOf zs n ys) : NonOf (xs ++ [n]) ys ∧ 0 < ys.length := by
  obtain ⟨h1, h2, h3, h4⟩ := ins_sorted h.1 hi
  refine ⟨⟨h1, fun x => ?_, by have := h.2.2; simp; omega⟩, List.length_pos_iff.2 h4⟩
  rw [h2, h.2.1]; simp

theorem ins_any (n : Int) (w : World) (B : Nat) (u : Value) (xs zs : List Int) (h : IntsV w B u zs) (hs : NonOf xs zs) (hl : xs.length ≤ 1000) (hB : B ≤ w.heap.size) :
    Calls Try.prog 40 #[u, .int .i64 n] w fun e w' => ∃ u' zs', e = .returned u' ∧ NonOf (xs ++ [n]) zs' ∧ IntsV w' B u' zs' ∧ Below w.heap.size w w' := by
  have hll := hs.2.2
  rcases h with ⟨rfl, rfl⟩ | ⟨g, c, rfl, h2, h3, h4, h5, h6⟩
  · refine (ins_nil n B w).mono ?_
    rintro e w' ⟨ys, g', c', k1, k2, k3, k4, k5, k6, k7⟩
    obtain ⟨m1, m2⟩ := hs.ins k1
    exact ⟨_, ys, k2, m1, .inr ⟨g', c', rfl, m2, k3, k4, by omega, k7⟩, k5⟩
  · refine (ins_row zs n g c w h2 (by omega) h3 h4 h6).mono ?_
    rintro e w' ⟨ys, g', c', k1, k2, k3, k4, k5, k6, k7⟩
    obtain ⟨m1, m2⟩ := hs.ins k1
    exact ⟨_, ys, k2, m1, .inr ⟨g', c', rfl, m2, k3, k4, by omega, k7⟩, k5⟩

def NonEnd (w : World) (xs : List Int) (e : Ending) (w' : World) : Prop := ∃ u zs, e = .returned u ∧ NonOf xs zs ∧ IntsV w' w.heap.size u zs ∧ Below w.heap.size w w'

def RefNon (a : Nd) (l : Fo) : Prop := ∀ (v : Value) (B : Nat) (w : World), RepV w B a l v → B ≤ w.heap.size → (nonT a l).length ≤ 500 →
    Calls Try.prog 15 #[v] w fun e w' => NonEnd w (nonT a l) e w'

def NonRel (w : World) (B b o : Nat) (A : Option Addr) (cap : Nat) (a : Nd) (l : Fo) (kv iv : Value) (wr : World) : Prop :=
  ∃ (i : Nat) (g : Fo) (xs zs : List Int), iv = .int .i64 (i : Int) ∧ i + flen g = flen l ∧ AllF RefNon g ∧ RepF wr B g b (o + i * 4) ∧ nonT a l = xs ++ nonF g ∧ NonOf xs zs ∧ IntsV wr w.heap.size kv zs ∧
        Below w.heap.size w wr ∧ w.heap.size < wr.heap.size ∧ wr.cell? ⟨w.heap.size, 3, none⟩ = some (.slice A (flen l) cap)

set_option maxRecDepth 20000 in
set_option maxHeartbeats 4000000 in
theorem refNon_step (a : Nd) (l : Fo) (ih : AllF RefNon l) : RefNon a l := by
  rintro v B w ⟨hf, A, cap, b, o, rfl, hn, hA, hr⟩ hB hz
  have HA : Hid (flen l = 0 ∨ A = some ⟨b, o, none⟩) := hA
  have HZ : Hid ((nonT a l).length ≤ 500) := hz
  clear hA hz
  go_enter Try.func15, Try.ntmps15
  by_cases hk : a.kind = 2
  · have hk' : (a.kind == 2) = true := by simp [hk]
    have HK : Hid (nonT a l = [a.n] ++ nonF l) := by show nonT a l = _; rw [nonT, if_pos hk]
    go_wp2_with fail
    go_loopw [3, 4] (fun kv iv wr => NonRel w B b o A cap a l kv iv wr) (fun _ iv _ => flen l - (intOf iv).toNat)
    case atStart =>
      refine ⟨0, l, [a.n], [a.n], rfl, by simp, ih, ?_, HK.out, ?_, ?_, (by repeat (first | exact Below.refl _ _ | assumption | refine below_drewN ?_ _ | refine Below.drew ?_ | refine Below.alloc ?_ (by simp <;> omega) _ | refine Below.setCell ?_ (by simp <;> omega) _)), by simp <;> omega, by simp [go_sem]⟩
      · rw [show o + 0 * 4 = o from by omega]
        exact hr.below (Below.mono (by repeat (first | exact Below.refl _ _ | assumption | refine below_drewN ?_ _ | refine Below.drew ?_ | refine Below.alloc ?_ (by simp <;> omega) _ | refine Below.setCell ?_ (by simp <;> omega) _)) hB)
      · exact ⟨by simp, fun x => Iff.rfl, Nat.le_refl _⟩
      · refine .inr ⟨w.heap.size + 1, 1, rfl, by simp, by simp, by omega, by omega, by simp, fun j hj => ?_⟩
        obtain rfl : j = 0 := by simp at hj; omega
        simp [go_sem]
    case round =>
      obtain ⟨i, g, xs, zs, rfl, hi, hg, hrg, hxs, hno, hiv, hbl, hsz, hbx⟩ := hrel
      have HX : Hid (nonT a l = xs ++ nonF g) := hxs
      have HN : Hid (NonOf xs zs) := hno
      have HI : Hid (IntsV wr w.heap.size u3 zs) := hiv
      clear hxs hno hiv HK
      cases g with
      | nil =>
        simp only [flen] at hi
        go_wp2_with fail
        go_ret
        exact ⟨_, zs, rfl, by rw [HX.out, nonF, List.append_nil]; exact HN.out, HI.out, hbl⟩
      | node c1 d1 a1 l1 r1 =>
        obtain ⟨hb1, hf1, e0, e1, e2, ⟨A1, cap1, b2, o2, e3, hn1, hA1, hl1⟩, hr1⟩ := hrg
        obtain ⟨hw1, hgr⟩ := hg
        simp only [flen] at hi
        have hi' : i < flen l := by omega
        obtain rfl : A = some ⟨b, o, none⟩ := by rcases HA.out with h | h; omega; exact h
        have HA1 : Hid (flen l1 = 0 ∨ A1 = some ⟨b2, o2, none⟩) := hA1
        clear hA1
        have hzB : B ≤ wr.heap.size := by have := hbl.size; omega
        have hlx : xs.length + ((nonT a1 l1).length + (nonF r1).length) ≤ 500 := by have h2 := HZ.out; rw [HX.out, nonF_node] at h2; simpa using h2
        go_wp2_with fail
        refine (hw1 _ B _ ⟨hf1, A1, cap1, b2, o2, rfl, hn1, HA1.out, hl1⟩ hzB (by omega)).mono ?_
        rintro e w2 ⟨u1, zs1, rfl, hno1, hi1, ho2⟩
        obtain ⟨A3, c3, rfl, hA3⟩ := hi1.len
        have HA3 : Hid (zs1.length = 0 ∨ ∃ g, A3 = some ⟨g, 0, none⟩ ∧ RowI w2 g zs1) := hA3
        have HN1 : Hid (NonOf (nonT a1 l1) zs1) := hno1
        have hz1 := hno1.2.2
        clear hA3 hi1 hno1
        have hb2 : Below w.heap.size w w2 := hbl.trans (ho2.mono hbl.size)
        have hr2 : RepF w2 B r1 b (o + i * 4 + 4) := hr1.below (ho2.mono hzB)
        have hbx2 : w2.cell? ⟨w.heap.size, 3, none⟩ = some (.slice (some ⟨b, o, none⟩) (flen l) cap) := by rw [ho2.cell (by simp; omega)]; exact hbx
        have hsz2 : w.heap.size < w2.heap.size := by have := ho2.size; omega
        have HI2 : Hid (IntsV w2 w.heap.size u3 zs) := HI.out.below ho2
        clear HI hbx hbl e0 e1 e2 e3
        go_wp2_with fail
        go_loopw [3, 6] (fun kv iv wi => ∃ (k : Nat) (ys : List Int), iv = .int .i64 (k : Int) ∧ k ≤ zs1.length ∧ NonOf (xs ++ zs1.take k) ys ∧ IntsV wi w.heap.size kv ys ∧ Below w2.heap.size w2 wi) (fun _ iv _ => zs1.length - (intOf iv).toNat)
        case atStart => exact ⟨0, zs, rfl, by omega, by simpa using HN.out, HI2.out, Below.refl _ _⟩
        case round =>
          obtain ⟨k, ys, rfl, hk1, hny, hiy, hby⟩ := hrel
          have HNY : Hid (NonOf (xs ++ zs1.take k) ys) := hny
          clear hny
          by_cases hkl : (k : Int) < (zs1.length : Int)
          · obtain ⟨g3, rfl, hr3⟩ : ∃ g, A3 = some ⟨g, 0, none⟩ ∧ RowI w2 g zs1 := by rcases HA3.out with h | h; omega; exact h
            have hck := (hr3.below hby).2 k (by omega)
            have HIY : Hid (IntsV _ w.heap.size _ ys) := hiy
            clear hiy
            go_wp2_with fail
            refine (ins_any (zs1.getD k 0) _ w.heap.size _ (xs ++ zs1.take k) ys HIY.out HNY.out (by simp; omega) (by have := hby.size; omega)).mono ?_
            rintro e w4 ⟨u', ys', rfl, hn', hi', ho'⟩
            have HN' : Hid (NonOf (xs ++ zs1.take k ++ [zs1.getD k 0]) ys') := hn'
            have HI' : Hid (IntsV w4 w.heap.size u' ys') := hi'
            clear hn' hi'
            go_wp2_with fail
            go_roundw
            case rel =>
              refine ⟨k + 1, ys', by go_num, by omega, ?_, HI'.out, hby.trans (ho'.mono hby.size)⟩
              have e : xs ++ zs1.take (k + 1) = xs ++ zs1.take k ++ [zs1.getD k 0] := by
                rw [List.append_assoc, List.take_succ_eq_append_getElem (by omega)]
                simp [List.getD, List.getElem?_eq_getElem (show k < zs1.length by omega)]
              rw [e]; exact HN'.out
            case measure => simp [intOf]; omega
          · obtain rfl : k = zs1.length := by omega
            have HIY : Hid (IntsV _ w.heap.size _ ys) := hiy
            clear hiy
            go_wp2_with fail
            go_roundw
            case rel =>
              refine ⟨i + 1, r1, xs ++ nonT a1 l1, ys, by go_num, by omega, hgr, ?_, by rw [HX.out, nonF_node, List.append_assoc], ?_, HIY.out, hb2.trans (hby.mono hb2.size), by have := hby.size; omega, ?_⟩
              · rw [show o + (i + 1) * 4 = o + i * 4 + 4 from by omega]
                exact hr2.below (hby.mono (by have := hb2.size; omega))
              · have h1 := HNY.out
                rw [List.take_length] at h1
                refine ⟨h1.1, fun x => ?_, by have := h1.2.2; simp at this ⊢; omega⟩
                rw [h1.2.1, List.mem_append, List.mem_append, HN1.out.2.1]
              · rw [hby.cell (by simp; omega)]; exact hbx2
            case measure => simp [intOf]; omega
  · have hk' : (a.kind == 2) = false := by simp [hk]
    have HK : Hid (nonT a l = [] ++ nonF l) := by show nonT a l = _; rw [nonT, if_neg hk]
    go_wp2_with fail
    go_loopw [3, 4] (fun kv iv wr => NonRel w B b o A cap a l kv iv wr) (fun _ iv _ => flen l - (intOf iv).toNat)
    case atStart =>
      refine ⟨0, l, [], [], rfl, by simp, ih, ?_, HK.out, ?_, ?_, (by repeat (first | exact Below.refl _ _ | assumption | refine below_drewN ?_ _ | refine Below.drew ?_ | refine Below.alloc ?_ (by simp <;> omega) _ | refine Below.setCell ?_ (by simp <;> omega) _)), by simp <;> omega, by simp [go_sem]⟩
      · rw [show o + 0 * 4 = o from by omega]
        exact hr.below (Below.mono (by repeat (first | exact Below.refl _ _ | assumption | refine below_drewN ?_ _ | refine Below.drew ?_ | refine Below.alloc ?_ (by simp <;> omega) _ | refine Below.setCell ?_ (by simp <;> omega) _)) hB)
      · exact ⟨by simp, fun x => Iff.rfl, Nat.le_refl _⟩
      · exact .inl ⟨rfl, rfl⟩
    case round =>
      obtain ⟨i, g, xs, zs, rfl, hi, hg, hrg, hxs, hno, hiv, hbl, hsz, hbx⟩ := hrel
      have HX : Hid (nonT a l = xs ++ nonF g) := hxs
      have HN : Hid (NonOf xs zs) := hno
      have HI : Hid (IntsV wr w.heap.size u3 zs) := hiv
      clear hxs hno hiv HK
      cases g with
      | nil =>
        simp only [flen] at hi
        go_wp2_with fail
        go_ret
        exact ⟨_, zs, rfl, by rw [HX.out, nonF, List.append_nil]; exact HN.out, HI.out, hbl⟩
      | node c1 d1 a1 l1 r1 =>
        obtain ⟨hb1, hf1, e0, e1, e2, ⟨A1, cap1, b2, o2, e3, hn1, hA1, hl1⟩, hr1⟩ := hrg
        obtain ⟨hw1, hgr⟩ := hg
        simp only [flen] at hi
        have hi' : i < flen l := by omega
        obtain rfl : A = some ⟨b, o, none⟩ := by rcases HA.out with h | h; omega; exact h
        have HA1 : Hid (flen l1 = 0 ∨ A1 = some ⟨b2, o2, none⟩) := hA1
        clear hA1
        have hzB : B ≤ wr.heap.size := by have := hbl.size; omega
        have hlx : xs.length + ((nonT a1 l1).length + (nonF r1).length) ≤ 500 := by have h2 := HZ.out; rw [HX.out, nonF_node] at h2; simpa using h2
        go_wp2_with fail
        refine (hw1 _ B _ ⟨hf1, A1, cap1, b2, o2, rfl, hn1, HA1.out, hl1⟩ hzB (by omega)).mono ?_
        rintro e w2 ⟨u1, zs1, rfl, hno1, hi1, ho2⟩
        obtain ⟨A3, c3, rfl, hA3⟩ := hi1.len
        have HA3 : Hid (zs1.length = 0 ∨ ∃ g, A3 = some ⟨g, 0, none⟩ ∧ RowI w2 g zs1) := hA3
        have HN1 : Hid (NonOf (nonT a1 l1) zs1) := hno1
        have hz1 := hno1.2.2
        clear hA3 hi1 hno1
        have hb2 : Below w.heap.size w w2 := hbl.trans (ho2.mono hbl.size)
        have hr2 : RepF w2 B r1 b (o + i * 4 + 4) := hr1.below (ho2.mono hzB)
        have hbx2 : w2.cell? ⟨w.heap.size, 3, none⟩ = some (.slice (some ⟨b, o, none⟩) (flen l) cap) := by rw [ho2.cell (by simp; omega)]; exact hbx
        have hsz2 : w.heap.size < w2.heap.size := by have := ho2.size; omega
        have HI2 : Hid (IntsV w2 w.heap.size u3 zs) := HI.out.below ho2
        clear HI hbx hbl e0 e1 e2 e3
        go_wp2_with fail
        go_loopw [3, 6] (fun kv iv wi => ∃ (k : Nat) (ys : List Int), iv = .int .i64 (k : Int) ∧ k ≤ zs1.length ∧ NonOf (xs ++ zs1.take k) ys ∧ IntsV wi w.heap.size kv ys ∧ Below w2.heap.size w2 wi) (fun _ iv _ => zs1.length - (intOf iv).toNat)
        case atStart => exact ⟨0, zs, rfl, by omega, by simpa using HN.out, HI2.out, Below.refl _ _⟩
        case round =>
          obtain ⟨k, ys, rfl, hk1, hny, hiy, hby⟩ := hrel
          have HNY : Hid (NonOf (xs ++ zs1.take k) ys) := hny
          clear hny
          by_cases hkl : (k : Int) < (zs1.length : Int)
          · obtain ⟨g3, rfl, hr3⟩ : ∃ g, A3 = some ⟨g, 0, none⟩ ∧ RowI w2 g zs1 := by rcases HA3.out with h | h; omega; exact h
            have hck := (hr3.below hby).2 k (by omega)
            have HIY : Hid (IntsV _ w.heap.size _ ys) := hiy
            clear hiy
            go_wp2_with fail
            refine (ins_any (zs1.getD k 0) _ w.heap.size _ (xs ++ zs1.take k) ys HIY.out HNY.out (by simp; omega) (by have := hby.size; omega)).mono ?_
            rintro e w4 ⟨u', ys', rfl, hn', hi', ho'⟩
            have HN' : Hid (NonOf (xs ++ zs1.take k ++ [zs1.getD k 0]) ys') := hn'
            have HI' : Hid (IntsV w4 w.heap.size u' ys') := hi'
            clear hn' hi'
            go_wp2_with fail
            go_roundw
            case rel =>
              refine ⟨k + 1, ys', by go_num, by omega, ?_, HI'.out, hby.trans (ho'.mono hby.size)⟩
              have e : xs ++ zs1.take (k + 1) = xs ++ zs1.take k ++ [zs1.getD k 0] := by
                rw [List.append_assoc, List.take_succ_eq_append_getElem (by omega)]
                simp [List.getD, List.getElem?_eq_getElem (show k < zs1.length by omega)]
              rw [e]; exact HN'.out
            case measure => simp [intOf]; omega
          · obtain rfl : k = zs1.length := by omega
            have HIY : Hid (IntsV _ w.heap.size _ ys) := hiy
            clear hiy
            go_wp2_with fail
            go_roundw
            case rel =>
              refine ⟨i + 1, r1, xs ++ nonT a1 l1, ys, by go_num, by omega, hgr, ?_, by rw [HX.out, nonF_node, List.append_assoc], ?_, HIY.out, hb2.trans (hby.mono hb2.size), by have := hby.size; omega, ?_⟩
              · rw [show o + (i + 1) * 4 = o + i * 4 + 4 from by omega]
                exact hr2.below (hby.mono (by have := hb2.size; omega))
              · have h1 := HNY.out
                rw [List.take_length] at h1
                refine ⟨h1.1, fun x => ?_, by have := h1.2.2; simp at this ⊢; omega⟩
                rw [h1.2.1, List.mem_append, List.mem_append, HN1.out.2.1]
              · rw [hby.cell (by simp; omega)]; exact hbx2
            case measure => simp [intOf]; omega

theorem refNon_all : ∀ f : Fo, AllF RefNon f
  | .nil => trivial
  | .node _ _ a l r => ⟨refNon_step a l (refNon_all l), refNon_all r⟩
theorem refNon_any (a : Nd) (l : Fo) : RefNon a l := refNon_step a l (refNon_all l)

end Go.Proofs.Ytihfhmlgfacoiaa
