import Derived.Test.YtfoeeocejcbmlaaGreatDoorUI
import Derived.Test.YtfoeeocejcbmlaaGreatDoorUH
namespace Go.Proofs.YtfoeeocejcbmlaaGreatDoor
open Go.RowKit
set_option linter.unusedVariables false
set_option linter.unusedSimpArgs false

def uOdds : List ByteArray := [⟨#[65]⟩, ⟨#[]⟩, ⟨#[97, 32, 98]⟩, ⟨#[97, 115, 58, 49]⟩, ⟨#[97, 115, 46]⟩, ⟨#[45]⟩]
theorem uOdds_ok : ∀ x ∈ uOdds, x.size ≤ 4 := by decide +kernel
theorem uOdd_ok (i : Nat) (hi : i < 6) : (uOdds.getD i ByteArray.empty).size ≤ 4 :=
  uOdds_ok _ (by rw [List.getD_eq_getElem?_getD, List.getElem?_eq_getElem (show i < uOdds.length from hi)]; exact List.getElem_mem _)
theorem uOdds_at (i : Nat) (hi : i < 6) : [Value.string ⟨#[65]⟩, Value.string ⟨#[]⟩, Value.string ⟨#[97, 32, 98]⟩, Value.string ⟨#[97, 115, 58, 49]⟩, Value.string ⟨#[97, 115, 46]⟩, Value.string ⟨#[45]⟩][i]? = some (Value.string (uOdds[i]?.getD ByteArray.empty)) := by
  rcases (show i = 0 ∨ i = 1 ∨ i = 2 ∨ i = 3 ∨ i = 4 ∨ i = 5 by omega) with rfl | rfl | rfl | rfl | rfl | rfl <;> rfl

theorem RowS.lay (W : World) (ps : List ByteArray) (T : TypeId) : RowS (W.alloc (.cells (ps.map Value.string).toArray T)) (.slice (some ⟨W.heap.size, 0, none⟩) ps.length ps.length) ps := by
  refine ⟨_, _, rfl, .inr ⟨W.heap.size, 0, rfl, by simp, fun i hi => ?_⟩⟩
  simp [go_sem]
  rw [List.getElem?_eq_getElem hi]; rfl

theorem s6_call {w W W' : World} {g : Nat} {a b c q : Value} {l : List Fd} (h : BoxU W g a b c ∧ OwnF W (w.heap.size + 1) q l ∧ Below w.heap.size w W) (hb : Below W.heap.size W W') : BoxU W' g a b c ∧ OwnF W' (w.heap.size + 1) q l ∧ Below w.heap.size w W' :=
  ⟨BoxU.below h.1 hb, h.2.1.below hb, h.2.2.trans (hb.mono h.2.2.size)⟩
theorem s6_only {w W W' : World} {g : Nat} {a b c q : Value} {l : List Fd} (h : BoxU W g a b c ∧ OwnF W (w.heap.size + 1) q l ∧ Below w.heap.size w W) (ho : Only w.heap.size W W') (hg : w.heap.size < g) : BoxU W' g a b c ∧ OwnF W' (w.heap.size + 1) q l ∧ Below w.heap.size w W' := by
  obtain ⟨⟨h0, h1, h2, h3⟩, h4, h5⟩ := h
  have hne : g ≠ w.heap.size := by omega
  exact ⟨⟨Nat.lt_of_lt_of_le h0 ho.size, (ho.cell (by simpa using h0) hne).trans h1, (ho.cell (by simpa using h0) hne).trans h2, (ho.cell (by simpa using h0) hne).trans h3⟩, h4.only ho (Nat.lt_succ_self _), h5.trans (ho.toBelow (Nat.le_refl _) h5.size)⟩

def TextsEnd (w : World) (e : Ending) (w' : World) : Prop :=
  ∃ (v : Value) (ps : List ByteArray), e = .returned v ∧ RowS w' v ps ∧ ps.length = 13 ∧ (∀ p ∈ ps, p.size ≤ 5000) ∧ Below w.heap.size w w'

theorem texts_small (s raw x y tx tg h p : ByteArray) (hs : s.size ≤ 400) (hr : raw.size ≤ 300) (hx : x.size ≤ 4) (ht : tx.size ≤ 100) (hg : tg.size ≤ 1024) (hh : h.size ≤ 5) (hp : p.size ≤ 10) (hy : y.size ≤ 400) :
    ∀ z ∈ [s, raw, ⟨#[104, 116, 116, 112, 115, 58, 47, 47]⟩ ++ raw, s ++ raw, y, ⟨#[104, 116, 116, 112, 115, 58, 47, 47]⟩ ++ h ++ ⟨#[47]⟩ ++ raw, ⟨#[104, 116, 116, 112, 115, 58, 47, 47]⟩ ++ x ++ p, ⟨#[104, 116, 116, 112, 58, 47, 47, 97, 115, 47]⟩, p ++ ⟨#[63]⟩ ++ tx, tg, tg ++ ⟨#[63]⟩, p ++ ⟨#[35]⟩, ⟨#[104, 116, 116, 112, 115, 58, 47, 47, 97, 115, 47, 120, 63]⟩], z.size ≤ 5000 := by
  have e8 : (⟨#[104, 116, 116, 112, 115, 58, 47, 47]⟩ : ByteArray).size = 8 := rfl
  have e1 : ∀ c : UInt8, (⟨#[c]⟩ : ByteArray).size = 1 := fun _ => rfl
  have e10 : (⟨#[104, 116, 116, 112, 58, 47, 47, 97, 115, 47]⟩ : ByteArray).size = 10 := rfl
  have e13 : (⟨#[104, 116, 116, 112, 115, 58, 47, 47, 97, 115, 47, 120, 63]⟩ : ByteArray).size = 13 := rfl
  simp only [List.mem_cons, List.not_mem_nil, or_false, forall_eq_or_imp, forall_eq, ByteArray.size_append, e8, e1, e10, e13]
  omega

set_option maxRecDepth 100000 in
set_option maxHeartbeats 4000000 in
theorem texts11_any (ns : List Int) (LA : Option Addr) (cap B : Nat) (raw : ByteArray) (hraw : raw.size ≤ 300) (w : World) (hB : B ≤ w.heap.size) (hns : NumsAt w B ns LA) (hf : NumsFit ns) :
    Calls Tryz.prog 6 #[.slice LA ns.length cap, .string raw] w fun e w' => TextsEnd w e w' := by
  have hnl := hf.1
  obtain ⟨u1, u2, u3, u4, u5, u6, u7⟩ := uriU_small ns
  have um := uriU_may ns
  have ut := uri_most (uriU ns)
  have kuri := fun (W : World) hW hN => uri_any ns LA cap B W hW hN hf
  have kpr := fun q W hq => rprint11_any (uriU ns) q W hq (by omega) (by omega) (by omega) (by omega)
  have ktg := fun q W hq => rtgt11_any (uriU ns) q W hq (by omega) (by omega) (by omega) (by omega)
  have hps : printS (uriU ns) = uriS (uriU ns) := by unfold printS; rw [if_pos um]
  have htz : (targetS (uriU ns)).size ≤ 1024 := by
    have h5 := ((mayU_is _).1 um).2.2.2.2
    have e : targetS (uriU ns) = tgtS (uriU ns) := by unfold targetS; rw [if_pos um]
    have e2 : (uriS (uriU ns)).size = (httpsS ++ (uriU ns).1 : ByteArray).size + (tgtS (uriU ns)).size := ByteArray.size_append
    rw [e]; omega
  have hsz : (printS (uriU ns)).size ≤ 400 := by rw [hps]; omega
  generalize printS (uriU ns) = s at *
  generalize targetS (uriU ns) = tg at *
  generalize uriU ns = u at *
  obtain ⟨h, p, l⟩ := u
  dsimp only at *
  clear um ut hps u4 u5 u6 u7
  have ktx := fun (W : World) hW hN => text_any ns LA cap B 9 (by decide) W hW hN hf
  have htx := textF_small ns 9 0 ByteArray.empty
  generalize textF ns 9 0 ByteArray.empty = tx at *
  have htx2 : tx.size ≤ 100 := by simp at htx; omega
  clear htx
  go_enter Tryz.func6, Tryz.ntmps6
  go_wp2_with fail
  have T1 : TapeAt (w.alloc (.cells #[.slice LA ns.length cap, .int .i64 0] 42)) w.heap.size LA ns.length cap 0 := ⟨by simp, by simp [go_sem], by simp [go_sem], by simp [go_sem]⟩
  have b1 : Below w.heap.size w (w.alloc (.cells #[.slice LA ns.length cap, .int .i64 0] 42)) := (by repeat (first | exact Below.refl _ _ | assumption | refine below_drewN ?_ _ | refine Below.drew ?_ | refine Below.alloc ?_ (by simp <;> omega) _ | refine Below.setCell ?_ (by simp <;> omega) _))
  have z1 : (w.alloc (.cells #[.slice LA ns.length cap, .int .i64 0] 42)).heap.size = w.heap.size + 1 := by simp
  generalize w.alloc (.cells #[.slice LA ns.length cap, .int .i64 0] 42) = w1 at *
  have hn1 := hns.below (b1.mono hB)
  refine (kuri w1 (by omega) hn1).mono ?_
  rintro e w2 ⟨q, rfl, ho2, hb2⟩
  obtain ⟨A, cp, rfl⟩ := slice_ofF ho2
  rw [z1] at ho2
  have T2 := T1.only hb2
  have B2 := b1.trans (hb2.mono b1.size)
  have z2 : w.heap.size < w2.heap.size := by have := hb2.size; omega
  clear kuri T1 hb2 b1 z1 hn1
  go_wp2_with fail
  have x3 := BoxU.new w2 (.string h) (.string p) (.slice A l.length cp) 28
  have b3 := (Below.refl w2.heap.size w2).alloc (Nat.le_refl _) (.cells #[.string h, .string p, .slice A l.length cp] 28)
  generalize w2.alloc (.cells #[.string h, .string p, .slice A l.length cp] 28) = w3 at *
  have s3 : BoxU w3 w2.heap.size (.string h) (.string p) (.slice A l.length cp) ∧ OwnF w3 (w.heap.size + 1) (.slice A l.length cp) l ∧ Below w.heap.size w w3 := ⟨x3, ho2.below b3, B2.trans (b3.mono B2.size)⟩
  have T3 := T2.only b3
  clear T2 B2 b3 x3 ho2
  refine (kpr (.slice A l.length cp) w3 s3.2.1.row).mono ?_
  rintro e w4 ⟨rfl, hb4⟩
  have s4 := s6_call s3 hb4
  have T4 := T3.only hb4
  have hn4 := hns.below (s4.2.2.mono hB)
  clear s3 T3 hb4 kpr
  go_wp2_with fail
  refine (next_any w4 w.heap.size B LA ns cap 0 (s.size : Int) T4 hB hn4 hf (by omega) (by omega) (by omega)).mono ?_
  rintro e w5 ⟨rfl, ho5, T5⟩
  have s5 := s6_only s4 ho5 z2
  have l1 := nextV_lo ns 0 (s.size : Int)
  have l2 : nextV ns 0 (s.size : Int) ≤ (s.size : Int) := by
    by_cases hz : 1 ≤ (s.size : Int)
    · have := nextV_hi ns 0 (s.size : Int) hz; omega
    · unfold nextV; rw [if_neg (fun h => hz h.2)]; omega
  obtain ⟨k, hk⟩ : ∃ k : Nat, nextV ns 0 (s.size : Int) = (k : Int) := ⟨(nextV ns 0 (s.size : Int)).toNat, by omega⟩
  have hkk := nextK_le ns 0 (s.size : Int) (by omega)
  rw [hk] at l1 l2 ⊢
  generalize nextK ns 0 (s.size : Int) = k1 at *
  clear hk s4 T4 hn4 ho5
  have hal : Below w5.heap.size w5 (w5.alloc (.cells #[.string ⟨#[65]⟩, .string ⟨#[]⟩, .string ⟨#[97, 32, 98]⟩, .string ⟨#[97, 115, 58, 49]⟩, .string ⟨#[97, 115, 46]⟩, .string ⟨#[45]⟩] 9)).drew := Below.drew (by repeat (first | exact Below.refl _ _ | assumption | refine below_drewN ?_ _ | refine Below.drew ?_ | refine Below.alloc ?_ (by simp <;> omega) _ | refine Below.setCell ?_ (by simp <;> omega) _))
  have s6 := s6_call s5 hal
  have kpick := pick_any ((w5.alloc (.cells #[.string ⟨#[65]⟩, .string ⟨#[]⟩, .string ⟨#[97, 32, 98]⟩, .string ⟨#[97, 115, 58, 49]⟩, .string ⟨#[97, 115, 46]⟩, .string ⟨#[45]⟩] 9)).drew) w.heap.size B LA ns cap k1 w5.heap.size uOdds 6 (T5.only hal) hB (hns.below (s6.2.2.mono hB)) hf hkk (by decide) (by decide) (by have := s5.2.2.size; have := s5.1.1; omega) (by simp) (fun i hi => by
    simp [go_sem]; exact uOdds_at i hi)
  have hox := uOdd_ok (nextV ns k1 6).toNat (by have := nextV_lo ns k1 6; have := nextV_hi ns k1 6 (by omega); omega)
  rw [show ((uOdds.length : Nat) : Int) = 6 from rfl] at kpick
  generalize uOdds.getD (nextV ns k1 6).toNat ByteArray.empty = x at *
  have y1 : ¬ 9223372036854775807 < 8 + raw.size := by omega
  have y2 : ¬ 9223372036854775807 < s.size + raw.size := by omega
  have y3 : ¬ 9223372036854775807 < 8 + h.size := by omega
  have y4 : ¬ 9223372036854775807 < 8 + h.size + 1 := by omega
  have y5 : ¬ 9223372036854775807 < 8 + h.size + 1 + raw.size := by omega
  have y6 : ¬ 9223372036854775807 < 8 + x.size := by omega
  have y7 : ¬ 9223372036854775807 < 8 + x.size + p.size := by omega
  have y8 : ¬ 9223372036854775807 < p.size + 1 := by omega
  have y9 : ¬ 9223372036854775807 < p.size + 1 + tx.size := by omega
  have y10 : ¬ 9223372036854775807 < tg.size + 1 := by omega
  have hxs : (s.extract 0 k).size ≤ 400 := by rw [ByteArray.size_extract]; omega
  have HSM : Hid (∀ z ∈ [s, raw, ⟨#[104, 116, 116, 112, 115, 58, 47, 47]⟩ ++ raw, s ++ raw, s.extract 0 k, ⟨#[104, 116, 116, 112, 115, 58, 47, 47]⟩ ++ h ++ ⟨#[47]⟩ ++ raw, ⟨#[104, 116, 116, 112, 115, 58, 47, 47]⟩ ++ x ++ p, ⟨#[104, 116, 116, 112, 58, 47, 47, 97, 115, 47]⟩, p ++ ⟨#[63]⟩ ++ tx, tg, tg ++ ⟨#[63]⟩, p ++ ⟨#[35]⟩, ⟨#[104, 116, 116, 112, 115, 58, 47, 47, 97, 115, 47, 120, 63]⟩], z.size ≤ 5000) := texts_small s raw x (s.extract 0 k) tx tg h p hsz hraw hox htx2 htz u1 u2 hxs
  have HS5 : Hid (BoxU w5 w2.heap.size (.string h) (.string p) (.slice A l.length cp) ∧ OwnF w5 (w.heap.size + 1) (.slice A l.length cp) l ∧ Below w.heap.size w w5) := s5
  have HNS : Hid (NumsAt w B ns LA) := hns
  have KTX : Hid (∀ W, Below w.heap.size w W → Calls Tryz.prog 20 #[.slice LA ns.length cap, .int .i64 9] W fun e w' => e = .returned (.string tx) ∧ Below W.heap.size W w') := fun W hw => ktx W (Nat.le_trans hB hw.size) (hns.below (hw.mono hB))
  clear s5 s6 hal T5 ktx hns hxs hsz htz htx2 hox u1 u2 u3
  go_wp2_with fail
  go_region_held3 (fun W => BoxU W w2.heap.size (.string h) (.string p) (.slice A l.length cp) ∧ OwnF W (w.heap.size + 1) (.slice A l.length cp) l ∧ Below w.heap.size w W)
    (first | with_reducible assumption | exact s6_call HS5.out (Below.drew (Below.refl _ _)) | exact HS5.out | exact s6_call HS5.out ((Below.refl _ _).alloc (Nat.le_refl _) _).drew | exact s6_call (w := w) (by with_reducible assumption) ((Below.refl _ _).alloc (Nat.le_refl _) _))
    (first
      | (go_at_call 19; refine kpick.mono ?_; rintro e w6 ⟨rfl, ho6, _⟩; have s6 := s6_only (w := w) (by with_reducible assumption) ho6 z2)
      | (go_at_call 20; refine (KTX.out _ ?_).mono ?_; exact And.right (And.right (by with_reducible assumption)); rintro e w7 ⟨rfl, hb7⟩; have s7 := s6_call (w := w) (by with_reducible assumption) hb7)
      | (go_at_call 21; refine (ktg (.slice A l.length cp) _ ?_).mono ?_; exact OwnF.row (And.left (And.right (by with_reducible assumption))); rintro e w8 ⟨rfl, hb8⟩; have s8 := s6_call (w := w) (by with_reducible assumption) hb8; have b8 := s8.2.2))
  have hlay := RowS.lay w8 [s, raw, ⟨#[104, 116, 116, 112, 115, 58, 47, 47]⟩ ++ raw, s ++ raw, s.extract 0 k, ⟨#[104, 116, 116, 112, 115, 58, 47, 47]⟩ ++ h ++ ⟨#[47]⟩ ++ raw, ⟨#[104, 116, 116, 112, 115, 58, 47, 47]⟩ ++ x ++ p, ⟨#[104, 116, 116, 112, 58, 47, 47, 97, 115, 47]⟩, p ++ ⟨#[63]⟩ ++ tx, tg, tg ++ ⟨#[63]⟩, p ++ ⟨#[35]⟩, ⟨#[104, 116, 116, 112, 115, 58, 47, 47, 97, 115, 47, 120, 63]⟩] 9
  have HB9 : Hid (Below w.heap.size w w8) := b8
  clear s8 b8 hb8 kpick KTX ktg HS5
  go_wp2_with fail
  go_ret
  exact ⟨_, _, rfl, hlay, rfl, HSM.out, HB9.out.alloc HB9.out.size _⟩

end Go.Proofs.YtfoeeocejcbmlaaGreatDoor
