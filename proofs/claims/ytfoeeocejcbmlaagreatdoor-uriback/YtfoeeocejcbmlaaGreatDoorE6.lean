import Derived.Test.YtfoeeocejcbmlaaGreatDoorE5
import Derived.Deep.RegionHeld3
namespace Go.Proofs.YtfoeeocejcbmlaaGreatDoor
open Go.RowKit
set_option linter.unusedVariables false
set_option linter.unusedSimpArgs false

theorem drop_ne (s : ByteArray) (i : Nat) (h : i < s.size) : s.data.toList.drop i ≠ [] := by
  intro e
  have := congrArg List.length e
  rw [List.length_drop, size_list] at this
  simp at this; omega
theorem drop_at (s : ByteArray) (i k : Nat) (h : i + k < s.size) : ((s.data.toList.drop i).getD k 0).toNat = bN s (i + k) := by
  rw [← getD_bN s (i + k) h]
  simp [List.getD_eq_getElem?_getD, List.getElem?_drop]
theorem drop_u8 (s : ByteArray) (i : Nat) (h : i < s.size) : (s.data.toList.drop i).getD 0 0 = UInt8.ofNat (bN s i) := by
  have := drop_at s i 0 h
  exact UInt8.toNat_inj.1 (by rw [this]; have := bN_lt s i; simp; omega)

theorem rdec_end (form : Bool) (f : Nat) (l acc : List UInt8) (h : l = []) : rdec form f l acc = some acc := by
  subst h; cases f <;> simp [rdec]
theorem rdec_plain (form : Bool) (s : ByteArray) (f i : Nat) (acc : List UInt8) (h : i < s.size) (hp : plainB (bN s i : Int) = true) :
    rdec form (f + 1) (s.data.toList.drop i) acc = rdec form f (s.data.toList.drop (i + 1)) (acc ++ [UInt8.ofNat (bN s i)]) := by
  rw [rdec, if_neg (drop_ne s i h), drop_at s i 0 h, Nat.add_zero, if_pos hp, List.drop_drop, drop_u8 s i h]
theorem rdec_plus (s : ByteArray) (f i : Nat) (acc : List UInt8) (h : i < s.size) (hp : bN s i = 43) :
    rdec true (f + 1) (s.data.toList.drop i) acc = rdec true f (s.data.toList.drop (i + 1)) (acc ++ [32]) := by
  rw [rdec, if_neg (drop_ne s i h), drop_at s i 0 h, Nat.add_zero, hp, if_neg (by decide), if_pos ⟨rfl, rfl⟩, List.drop_drop]
theorem rdec_pct (form : Bool) (s : ByteArray) (f i : Nat) (acc : List UInt8) (h : i + 2 < s.size) (hp : bN s i = 37) (h1 : 0 ≤ digN (bN s (i + 1))) (h2 : 0 ≤ digN (bN s (i + 2))) :
    rdec form (f + 1) (s.data.toList.drop i) acc = rdec form f (s.data.toList.drop (i + 3)) (acc ++ [UInt8.ofNat (digN (bN s (i + 1)) * 16 + digN (bN s (i + 2))).toNat]) := by
  rw [rdec, if_neg (drop_ne s i (by omega)), drop_at s i 0 (by omega), Nat.add_zero, hp, if_neg (by decide), if_neg (by simp), drop_at s i 1 (by omega), drop_at s i 2 (by omega), if_pos ⟨rfl, by rw [List.length_drop, size_list]; omega, h1, h2⟩, List.drop_drop]
theorem rdec_bad (form : Bool) (s : ByteArray) (f i : Nat) (acc : List UInt8) (h : i < s.size) (hp : plainB (bN s i : Int) = false) (h1 : ¬ (form = true ∧ bN s i = 43)) (h2 : ¬ (bN s i = 37 ∧ i + 2 < s.size ∧ 0 ≤ digN (bN s (i + 1)) ∧ 0 ≤ digN (bN s (i + 2)))) :
    rdec form f (s.data.toList.drop i) acc = none := by
  cases f with
  | zero => rw [rdec, if_neg (drop_ne s i h)]
  | succ f =>
    rw [rdec, if_neg (drop_ne s i h), drop_at s i 0 h, Nat.add_zero, if_neg (by rw [hp]; simp), if_neg h1, if_neg]
    rintro ⟨a, b, c, d⟩
    rw [List.length_drop, size_list] at b
    rw [drop_at s i 1 (by omega)] at c
    rw [drop_at s i 2 (by omega)] at d
    exact h2 ⟨a, by omega, c, d⟩

theorem digN_lo (c : Nat) : -1 ≤ digN c := by unfold digN; (repeat' split) <;> omega
theorem digN_hi (c : Nat) : digN c ≤ 15 := by unfold digN; (repeat' split) <;> omega

theorem below_endD {wr w6 : World} {B : Nat} {o : Obj} {u v6 : Value} {xs : List UInt8} (hown : OwnB wr B u xs) (hg : (wr.alloc o).drew.grownBy w6 u.ownBlock) (hat : v6.ownBlock = u.ownBlock ∨ v6.ownBlock = some (wr.alloc o).drew.heap.size) (hB : B ≤ wr.heap.size) : Below B wr w6 :=
  (Grew.step ((Grew.refl wr u).alloc o).drew hg hat).toBelow (fun q hq => (hown.base q hq).1) hB

/-- What the reference's Dec has come to at i. -/
def RdRel (form : Bool) (s : ByteArray) (w : World) (ov iv : Value) (wr : World) : Prop :=
  ∃ (i fuel : Nat) (acc : List UInt8), iv = .int .i64 (i : Int) ∧ i ≤ s.size ∧ OwnB wr w.heap.size ov acc ∧ Below w.heap.size w wr ∧ s.size ≤ i + fuel ∧ acc.length ≤ i ∧ rdec form fuel (s.data.toList.drop i) acc = rdec form s.size s.data.toList []

set_option maxRecDepth 100000 in
set_option maxHeartbeats 4000000 in
theorem rdec_any (s : ByteArray) (hs : s.size ≤ 1000000) (form : Bool) (w : World) :
    Calls Tryz.prog 51 #[.string s, .bool form] w fun e w' => e = .returned (.tuple #[.string (decX form s), .int .i64 (decN form s)]) ∧ Below w.heap.size w w' := by
  obtain ⟨i5, hi, hz0, hz1, hz2⟩ := info_has Tryz.infoByte
  go_enter Tryz.func51, Tryz.ntmps51
  go_wp2_with fail
  go_loopw [6, 7] (fun ov iv wr => RdRel form s w ov iv wr) (fun _ iv _ => s.size - (intOf iv).toNat)
  case atStart => exact ⟨0, s.size, [], rfl, by omega, OwnB.nil _ _, Below.refl _ _, by omega, by simp, rfl⟩
  case round =>
    obtain ⟨i, fuel, acc, rfl, hi0, hown, hb, hf, hal, hacc⟩ := hrel
    have Hacc : Hid (rdec form fuel (s.data.toList.drop i) acc = rdec form s.size s.data.toList []) := hacc
    clear hacc
    have hsz := hb.size
    by_cases hp : i < s.size
    · have hp' : (i : Int) < (s.size : Int) := by omega
      obtain ⟨f, rfl⟩ : ∃ f, fuel = f + 1 := ⟨fuel - 1, by omega⟩
      have hc : bN s i < 256 := bN_lt s i
      have hix : ∀ W, (Instr.index 9 (.string s) (.int .i64 (i : Int))).run Tryz.prog W = .ok (.int .u8 (bN s i : Int)) W := fun W => by rw [← bN_at s i hp]; simp [go_sem, hp]
      have hpl := fun W => plain6_any (bN s i) hc W
      have HO : Hid (OwnB wr w.heap.size u6 acc) := hown
      clear hown
      by_cases hpb : plainB (bN s i : Int) = true
      · have Hst : Hid (_ = _) := rdec_plain form s f i acc hp hpb
        rw [hpb] at hpl
        clear hpb
        generalize bN s i = c at *
        go_wp2_with (first | (go_at_call 49; refine (hpl _).mono ?_; rintro e w1 ⟨rfl, hw1⟩; rw [hw1]; clear hw1 w1) | (at_builtin; refine wpList_append_any _ rfl _ _ 82 rfl w.heap.size 5 i5 (.int .u8 0) 1 1 Tryz.underlying82 hi hz0 hz1 hz2 rfl (by decide) u6 acc.length (Lib.byteCells acc) rfl (HO.out.alloc _) (some ⟨wr.heap.size, 0, none⟩) 1 1 [.int .u8 (c : Int)] rfl (.inr ⟨_, rfl, rfl, World.news_of_block (t := 5) (fr := (0, 0)) (heap_alloc_new wr _), by simp [Value.oneCell']⟩) (by unfold maxLen; omega) (by omega) (by simp; omega) ?_))
        intro v6 w6 hown6 hgrow6 hat6
        have hb6 : Below w.heap.size w w6 := hb.trans (below_end HO.out hgrow6 hat6 hsz)
        have O6 : Hid (OwnB w6 w.heap.size v6 (acc ++ [UInt8.ofNat c])) := append_end hown6 (by simp [Lib.byteCells]; omega) rfl
        clear hown6 hgrow6 hat6 HO
        go_wp2_with fail
        go_roundw
        case rel => exact ⟨i + 1, f, _, by simp, by omega, O6.out, hb6, by omega, by simp; omega, by rw [← Hst.out]; exact Hacc.out⟩
        case measure =>
          simp [intOf]
          omega
      · cases form
        · have hpf : plainB (bN s i : Int) = false := by simpa using hpb
          rw [hpf] at hpl
          have h43 : ¬ ((false : Bool) = true ∧ bN s i = 43) := by simp
          by_cases h37 : bN s i = 37
          · by_cases h2 : i + 2 < s.size
            · have k1 : (i : Int) + 1 < (s.size : Int) := by omega
              have k2 : (i : Int) + 2 < (s.size : Int) := by omega
              have hix1 : ∀ W, (Instr.index 9 (.string s) (.int .i64 ((i : Int) + 1))).run Tryz.prog W = .ok (.int .u8 (bN s (i + 1) : Int)) W := fun W => by rw [← bN_at s (i + 1) (by omega), show (i : Int) + 1 = ((i + 1 : Nat) : Int) from rfl, run_index_string (P := Tryz.prog) W 9 s .i64 _ Tryz.underlying9, dif_pos ⟨by omega, by omega⟩]; rfl
              have hix2 : ∀ W, (Instr.index 9 (.string s) (.int .i64 ((i : Int) + 2))).run Tryz.prog W = .ok (.int .u8 (bN s (i + 2) : Int)) W := fun W => by rw [← bN_at s (i + 2) (by omega), show (i : Int) + 2 = ((i + 2 : Nat) : Int) from rfl, run_index_string (P := Tryz.prog) W 9 s .i64 _ Tryz.underlying9, dif_pos ⟨by omega, by omega⟩]; rfl
              have hd1 := fun W => rdig_any (bN s (i + 1)) (bN_lt _ _) W
              have hd2 := fun W => rdig_any (bN s (i + 2)) (bN_lt _ _) W
              have lo1 := digN_lo (bN s (i + 1))
              have lo2 := digN_lo (bN s (i + 2))
              have hi1 := digN_hi (bN s (i + 1))
              have hi2 := digN_hi (bN s (i + 2))
              have Hpc : Hid (0 ≤ digN (bN s (i + 1)) → 0 ≤ digN (bN s (i + 2)) → _ = _) := rdec_pct false s f i acc h2 h37
              have Hbd : Hid (¬ (0 ≤ digN (bN s (i + 1)) ∧ 0 ≤ digN (bN s (i + 2))) → rdec false (f + 1) (s.data.toList.drop i) acc = none) := fun h => rdec_bad false s (f + 1) i acc hp hpf h43 (fun h' => h h'.2.2)
              rw [h37] at hix hpl
              clear hpb hpf h43 h37 hc
              generalize bN s (i + 1) = c1 at *
              generalize bN s (i + 2) = c2 at *
              generalize digN c1 = x1 at *
              generalize digN c2 = x2 at *
              by_cases e1 : 0 ≤ x1
              · by_cases e2 : 0 ≤ x2
                · have Hst : Hid (_ = _) := Hpc.out e1 e2
                  clear Hpc Hbd
                  go_wp2_with (first | (go_at_call 49; refine (hpl _).mono ?_; rintro e w1 ⟨rfl, hw1⟩; rw [hw1]; clear hw1 w1) | (go_at_call 68; first | (with_reducible refine (hd1 _).mono ?_; rintro e w1 ⟨rfl, hw1⟩; rw [hw1]; clear hw1 w1) | (with_reducible refine (hd2 _).mono ?_; rintro e w1 ⟨rfl, hw1⟩; rw [hw1]; clear hw1 w1)))
                  have g1 : IntKind.i64.wrap ((i : Int) + 1) = (i : Int) + 1 := wrap_in _ (by omega) (by omega)
                  have g2 : IntKind.i64.wrap ((i : Int) + 2) = (i : Int) + 2 := wrap_in _ (by omega) (by omega)
                  have g3 : IntKind.i64.wrap (x1 * 16) = x1 * 16 := wrap_in _ (by omega) (by omega)
                  have g4 : IntKind.i64.wrap (x1 * 16 + x2) = x1 * 16 + x2 := wrap_in _ (by omega) (by omega)
                  have g5 : IntKind.u8.wrap (x1 * 16 + x2) = x1 * 16 + x2 := by rw [IntKind.wrap_u8]; omega
                  go_region_held3 (fun W => Below w.heap.size w W)
                    (first | assumption | exact Below.drew hb | exact Below.alloc (Below.drew hb) hsz _ | exact Below.drew (Below.alloc hb hsz _) | exact hb6)
                    (first
                      | (go_at_call 68; first | (with_reducible refine (hd1 _).mono ?_; rintro e w1 ⟨rfl, hw1⟩; rw [hw1]; clear hw1 w1) | (with_reducible refine (hd2 _).mono ?_; rintro e w1 ⟨rfl, hw1⟩; rw [hw1]; clear hw1 w1))
                      | (refine step_append_any _ (by rfl) _ _ 82 (by rfl) w.heap.size 5 i5 (.int .u8 0) 1 1 Tryz.underlying82 hi hz0 hz1 hz2 rfl (by decide) u6 acc.length (Lib.byteCells acc) (by rfl) (World.ownsRow.drew (HO.out.alloc _)) (some ⟨wr.heap.size, 0, none⟩) 1 1 [.int .u8 (x1 * 16 + x2)] (by rfl) (.inr ⟨_, rfl, rfl, World.news_of_block (cs := #[.int .u8 (x1 * 16 + x2)]) (t := 5) (fr := (0, 0)) (heap_alloc_new wr (.cells #[.int .u8 (x1 * 16 + x2)] 5)), by simp [Value.oneCell']⟩) (by unfold maxLen; omega) (by omega) (by simp; omega) ?_; intro v6 w6 hown6 hgrow6 hat6; have hb6 : Below w.heap.size w w6 := hb.trans (below_endD HO.out hgrow6 hat6 hsz)))
                  all_goals
                    have O6 : Hid (OwnB w6 w.heap.size v6 (acc ++ [UInt8.ofNat (x1 * 16 + x2).toNat])) := append_end hown6 (by simp [Lib.byteCells]; omega) rfl
                    clear hown6 hgrow6 hat6 HO g1 g2 g3 g4 g5 hd1 hd2 hix1 hix2
                    go_wp2_with fail
                    go_roundw
                    case rel => exact ⟨i + 3, f, _, by go_num, by omega, O6.out, hb6, by omega, by simp; omega, by rw [← Hst.out]; exact Hacc.out⟩
                    case measure =>
                      simp [intOf]
                      omega
                · have Hst : Hid (_ = _) := Hbd.out (fun h => e2 h.2)
                  clear Hpc Hbd
                  go_wp2_with (first | (go_at_call 49; refine (hpl _).mono ?_; rintro e w1 ⟨rfl, hw1⟩; rw [hw1]; clear hw1 w1) | (go_at_call 68; first | (with_reducible refine (hd1 _).mono ?_; rintro e w1 ⟨rfl, hw1⟩; rw [hw1]; clear hw1 w1) | (with_reducible refine (hd2 _).mono ?_; rintro e w1 ⟨rfl, hw1⟩; rw [hw1]; clear hw1 w1)))
                  exact bodyPost_ret (v := .tuple #[.string ⟨#[]⟩, .int .i64 3]) (by simp [results, Tryz.results51, go_sem]) rfl ⟨ret_dec (rdec_none false s (by rw [← Hacc.out]; exact Hst.out)).2.symm (rdec_none false s (by rw [← Hacc.out]; exact Hst.out)).1.symm, hb⟩
              · have Hst : Hid (_ = _) := Hbd.out (fun h => e1 h.1)
                clear Hpc Hbd
                go_wp2_with (first | (go_at_call 49; refine (hpl _).mono ?_; rintro e w1 ⟨rfl, hw1⟩; rw [hw1]; clear hw1 w1) | (go_at_call 68; first | (with_reducible refine (hd1 _).mono ?_; rintro e w1 ⟨rfl, hw1⟩; rw [hw1]; clear hw1 w1) | (with_reducible refine (hd2 _).mono ?_; rintro e w1 ⟨rfl, hw1⟩; rw [hw1]; clear hw1 w1)))
                exact bodyPost_ret (v := .tuple #[.string ⟨#[]⟩, .int .i64 3]) (by simp [results, Tryz.results51, go_sem]) rfl ⟨ret_dec (rdec_none false s (by rw [← Hacc.out]; exact Hst.out)).2.symm (rdec_none false s (by rw [← Hacc.out]; exact Hst.out)).1.symm, hb⟩
            · have k2 : ¬ (i : Int) + 2 < (s.size : Int) := by omega
              have Hst : Hid (_ = _) := rdec_bad false s (f + 1) i acc hp hpf h43 (fun h => h2 h.2.1)
              rw [h37] at hix hpl
              clear hpb hpf h43 h37 hc
              go_wp2_with (first | (go_at_call 49; refine (hpl _).mono ?_; rintro e w1 ⟨rfl, hw1⟩; rw [hw1]; clear hw1 w1))
              exact bodyPost_ret (v := .tuple #[.string ⟨#[]⟩, .int .i64 3]) (by simp [results, Tryz.results51, go_sem]) rfl ⟨ret_dec (rdec_none false s (by rw [← Hacc.out]; exact Hst.out)).2.symm (rdec_none false s (by rw [← Hacc.out]; exact Hst.out)).1.symm, hb⟩
          · have f37 : ((bN s i : Int) == 37) = false := by simp; omega
            have Hst : Hid (_ = _) := rdec_bad false s (f + 1) i acc hp hpf h43 (fun h => h37 h.1)
            clear hpb hpf h43 h37
            generalize bN s i = c at *
            go_wp2_with (first | (go_at_call 49; refine (hpl _).mono ?_; rintro e w1 ⟨rfl, hw1⟩; rw [hw1]; clear hw1 w1))
            exact bodyPost_ret (v := .tuple #[.string ⟨#[]⟩, .int .i64 3]) (by simp [results, Tryz.results51, go_sem]) rfl ⟨ret_dec (rdec_none false s (by rw [← Hacc.out]; exact Hst.out)).2.symm (rdec_none false s (by rw [← Hacc.out]; exact Hst.out)).1.symm, hb⟩
        · have hpf : plainB (bN s i : Int) = false := by simpa using hpb
          rw [hpf] at hpl
          by_cases h43 : bN s i = 43
          · have Hst : Hid (_ = _) := rdec_plus s f i acc hp h43
            rw [h43] at hix hpl
            clear hpb hpf h43 hc
            go_wp2_with (first | (go_at_call 49; refine (hpl _).mono ?_; rintro e w1 ⟨rfl, hw1⟩; rw [hw1]; clear hw1 w1) | (at_builtin; refine wpList_append_any _ rfl _ _ 82 rfl w.heap.size 5 i5 (.int .u8 0) 1 1 Tryz.underlying82 hi hz0 hz1 hz2 rfl (by decide) u6 acc.length (Lib.byteCells acc) rfl (HO.out.alloc _) (some ⟨wr.heap.size, 0, none⟩) 1 1 [.int .u8 32] rfl (.inr ⟨_, rfl, rfl, World.news_of_block (t := 5) (fr := (0, 0)) (heap_alloc_new wr _), by simp [Value.oneCell']⟩) (by unfold maxLen; omega) (by omega) (by simp; omega) ?_))
            intro v6 w6 hown6 hgrow6 hat6
            have hb6 : Below w.heap.size w w6 := hb.trans (below_end HO.out hgrow6 hat6 hsz)
            have O6 : Hid (OwnB w6 w.heap.size v6 (acc ++ [32])) := append_end hown6 rfl rfl
            clear hown6 hgrow6 hat6 HO
            go_wp2_with fail
            go_roundw
            case rel => exact ⟨i + 1, f, _, by simp, by omega, O6.out, hb6, by omega, by simp; omega, by rw [← Hst.out]; exact Hacc.out⟩
            case measure =>
              simp [intOf]
              omega
          have f43 : ((bN s i : Int) == 43) = false := by simp; omega
          by_cases h37 : bN s i = 37
          · by_cases h2 : i + 2 < s.size
            · have k1 : (i : Int) + 1 < (s.size : Int) := by omega
              have k2 : (i : Int) + 2 < (s.size : Int) := by omega
              have hix1 : ∀ W, (Instr.index 9 (.string s) (.int .i64 ((i : Int) + 1))).run Tryz.prog W = .ok (.int .u8 (bN s (i + 1) : Int)) W := fun W => by rw [← bN_at s (i + 1) (by omega), show (i : Int) + 1 = ((i + 1 : Nat) : Int) from rfl, run_index_string (P := Tryz.prog) W 9 s .i64 _ Tryz.underlying9, dif_pos ⟨by omega, by omega⟩]; rfl
              have hix2 : ∀ W, (Instr.index 9 (.string s) (.int .i64 ((i : Int) + 2))).run Tryz.prog W = .ok (.int .u8 (bN s (i + 2) : Int)) W := fun W => by rw [← bN_at s (i + 2) (by omega), show (i : Int) + 2 = ((i + 2 : Nat) : Int) from rfl, run_index_string (P := Tryz.prog) W 9 s .i64 _ Tryz.underlying9, dif_pos ⟨by omega, by omega⟩]; rfl
              have hd1 := fun W => rdig_any (bN s (i + 1)) (bN_lt _ _) W
              have hd2 := fun W => rdig_any (bN s (i + 2)) (bN_lt _ _) W
              have lo1 := digN_lo (bN s (i + 1))
              have lo2 := digN_lo (bN s (i + 2))
              have hi1 := digN_hi (bN s (i + 1))
              have hi2 := digN_hi (bN s (i + 2))
              have Hpc : Hid (0 ≤ digN (bN s (i + 1)) → 0 ≤ digN (bN s (i + 2)) → _ = _) := rdec_pct true s f i acc h2 h37
              have Hbd : Hid (¬ (0 ≤ digN (bN s (i + 1)) ∧ 0 ≤ digN (bN s (i + 2))) → rdec true (f + 1) (s.data.toList.drop i) acc = none) := fun h => rdec_bad true s (f + 1) i acc hp hpf (fun h => h43 h.2) (fun h' => h h'.2.2)
              rw [h37] at hix hpl
              clear hpb hpf h43 h37 hc f43
              generalize bN s (i + 1) = c1 at *
              generalize bN s (i + 2) = c2 at *
              generalize digN c1 = x1 at *
              generalize digN c2 = x2 at *
              by_cases e1 : 0 ≤ x1
              · by_cases e2 : 0 ≤ x2
                · have Hst : Hid (_ = _) := Hpc.out e1 e2
                  clear Hpc Hbd
                  go_wp2_with (first | (go_at_call 49; refine (hpl _).mono ?_; rintro e w1 ⟨rfl, hw1⟩; rw [hw1]; clear hw1 w1) | (go_at_call 68; first | (with_reducible refine (hd1 _).mono ?_; rintro e w1 ⟨rfl, hw1⟩; rw [hw1]; clear hw1 w1) | (with_reducible refine (hd2 _).mono ?_; rintro e w1 ⟨rfl, hw1⟩; rw [hw1]; clear hw1 w1)))
                  have g1 : IntKind.i64.wrap ((i : Int) + 1) = (i : Int) + 1 := wrap_in _ (by omega) (by omega)
                  have g2 : IntKind.i64.wrap ((i : Int) + 2) = (i : Int) + 2 := wrap_in _ (by omega) (by omega)
                  have g3 : IntKind.i64.wrap (x1 * 16) = x1 * 16 := wrap_in _ (by omega) (by omega)
                  have g4 : IntKind.i64.wrap (x1 * 16 + x2) = x1 * 16 + x2 := wrap_in _ (by omega) (by omega)
                  have g5 : IntKind.u8.wrap (x1 * 16 + x2) = x1 * 16 + x2 := by rw [IntKind.wrap_u8]; omega
                  go_region_held3 (fun W => Below w.heap.size w W)
                    (first | assumption | exact Below.drew hb | exact Below.alloc (Below.drew hb) hsz _ | exact Below.drew (Below.alloc hb hsz _) | exact hb6)
                    (first
                      | (go_at_call 68; first | (with_reducible refine (hd1 _).mono ?_; rintro e w1 ⟨rfl, hw1⟩; rw [hw1]; clear hw1 w1) | (with_reducible refine (hd2 _).mono ?_; rintro e w1 ⟨rfl, hw1⟩; rw [hw1]; clear hw1 w1))
                      | (refine step_append_any _ (by rfl) _ _ 82 (by rfl) w.heap.size 5 i5 (.int .u8 0) 1 1 Tryz.underlying82 hi hz0 hz1 hz2 rfl (by decide) u6 acc.length (Lib.byteCells acc) (by rfl) (World.ownsRow.drew (HO.out.alloc _)) (some ⟨wr.heap.size, 0, none⟩) 1 1 [.int .u8 (x1 * 16 + x2)] (by rfl) (.inr ⟨_, rfl, rfl, World.news_of_block (cs := #[.int .u8 (x1 * 16 + x2)]) (t := 5) (fr := (0, 0)) (heap_alloc_new wr (.cells #[.int .u8 (x1 * 16 + x2)] 5)), by simp [Value.oneCell']⟩) (by unfold maxLen; omega) (by omega) (by simp; omega) ?_; intro v6 w6 hown6 hgrow6 hat6; have hb6 : Below w.heap.size w w6 := hb.trans (below_endD HO.out hgrow6 hat6 hsz)))
                  all_goals
                    have O6 : Hid (OwnB w6 w.heap.size v6 (acc ++ [UInt8.ofNat (x1 * 16 + x2).toNat])) := append_end hown6 (by simp [Lib.byteCells]; omega) rfl
                    clear hown6 hgrow6 hat6 HO g1 g2 g3 g4 g5 hd1 hd2 hix1 hix2
                    go_wp2_with fail
                    go_roundw
                    case rel => exact ⟨i + 3, f, _, by go_num, by omega, O6.out, hb6, by omega, by simp; omega, by rw [← Hst.out]; exact Hacc.out⟩
                    case measure =>
                      simp [intOf]
                      omega
                · have Hst : Hid (_ = _) := Hbd.out (fun h => e2 h.2)
                  clear Hpc Hbd
                  go_wp2_with (first | (go_at_call 49; refine (hpl _).mono ?_; rintro e w1 ⟨rfl, hw1⟩; rw [hw1]; clear hw1 w1) | (go_at_call 68; first | (with_reducible refine (hd1 _).mono ?_; rintro e w1 ⟨rfl, hw1⟩; rw [hw1]; clear hw1 w1) | (with_reducible refine (hd2 _).mono ?_; rintro e w1 ⟨rfl, hw1⟩; rw [hw1]; clear hw1 w1)))
                  exact bodyPost_ret (v := .tuple #[.string ⟨#[]⟩, .int .i64 3]) (by simp [results, Tryz.results51, go_sem]) rfl ⟨ret_dec (rdec_none true s (by rw [← Hacc.out]; exact Hst.out)).2.symm (rdec_none true s (by rw [← Hacc.out]; exact Hst.out)).1.symm, hb⟩
              · have Hst : Hid (_ = _) := Hbd.out (fun h => e1 h.1)
                clear Hpc Hbd
                go_wp2_with (first | (go_at_call 49; refine (hpl _).mono ?_; rintro e w1 ⟨rfl, hw1⟩; rw [hw1]; clear hw1 w1) | (go_at_call 68; first | (with_reducible refine (hd1 _).mono ?_; rintro e w1 ⟨rfl, hw1⟩; rw [hw1]; clear hw1 w1) | (with_reducible refine (hd2 _).mono ?_; rintro e w1 ⟨rfl, hw1⟩; rw [hw1]; clear hw1 w1)))
                exact bodyPost_ret (v := .tuple #[.string ⟨#[]⟩, .int .i64 3]) (by simp [results, Tryz.results51, go_sem]) rfl ⟨ret_dec (rdec_none true s (by rw [← Hacc.out]; exact Hst.out)).2.symm (rdec_none true s (by rw [← Hacc.out]; exact Hst.out)).1.symm, hb⟩
            · have k2 : ¬ (i : Int) + 2 < (s.size : Int) := by omega
              have Hst : Hid (_ = _) := rdec_bad true s (f + 1) i acc hp hpf (fun h => h43 h.2) (fun h => h2 h.2.1)
              rw [h37] at hix hpl
              clear hpb hpf h43 h37 hc f43
              go_wp2_with (first | (go_at_call 49; refine (hpl _).mono ?_; rintro e w1 ⟨rfl, hw1⟩; rw [hw1]; clear hw1 w1))
              exact bodyPost_ret (v := .tuple #[.string ⟨#[]⟩, .int .i64 3]) (by simp [results, Tryz.results51, go_sem]) rfl ⟨ret_dec (rdec_none true s (by rw [← Hacc.out]; exact Hst.out)).2.symm (rdec_none true s (by rw [← Hacc.out]; exact Hst.out)).1.symm, hb⟩
          · have f37 : ((bN s i : Int) == 37) = false := by simp; omega
            have Hst : Hid (_ = _) := rdec_bad true s (f + 1) i acc hp hpf (fun h => h43 h.2) (fun h => h37 h.1)
            clear hpb hpf h43 h37
            generalize bN s i = c at *
            go_wp2_with (first | (go_at_call 49; refine (hpl _).mono ?_; rintro e w1 ⟨rfl, hw1⟩; rw [hw1]; clear hw1 w1))
            exact bodyPost_ret (v := .tuple #[.string ⟨#[]⟩, .int .i64 3]) (by simp [results, Tryz.results51, go_sem]) rfl ⟨ret_dec (rdec_none true s (by rw [← Hacc.out]; exact Hst.out)).2.symm (rdec_none true s (by rw [← Hacc.out]; exact Hst.out)).1.symm, hb⟩
    · have hp' : ¬ (i : Int) < (s.size : Int) := by omega
      have hr : Hid (rdec form s.size s.data.toList [] = some acc) := by
        show _ = _
        rw [← Hacc.out, rdec_end _ _ _ _ (by rw [List.drop_eq_nil_iff, size_list]; omega)]
      have Hr1 : Hid (_ ∧ _) := rdec_some form s acc hr.out
      have hcv := conv_own hown
      have hbs : (⟨acc.toArray⟩ : ByteArray).size ≤ 1000000 := by rw [← size_list]; show acc.length ≤ _; omega
      generalize hbb : (⟨acc.toArray⟩ : ByteArray) = bb at *
      have Hbb : Hid ((⟨acc.toArray⟩ : ByteArray) = bb) := hbb
      clear hbb
      have hren := fun W => renc_any bb hbs form W
      have HO : Hid (OwnB wr w.heap.size u6 acc) := hown
      clear hown hr
      generalize encS form bb = eb at *
      by_cases he : eb = s
      · have he' : (eb.toList == s.toList) = true := by rw [he]; simp
        have Hd : Hid (decN form s = 0 ∧ decX form s = bb) := Hr1.out.1 he
        clear he Hr1
        go_wp2_with (first | (go_at_call 69; refine (hren _).mono ?_; rintro e w1 ⟨rfl, hb1⟩; have hcv1 := conv_own (HO.out.below hb1)))
        exact bodyPost_ret (v := .tuple #[.string ⟨acc.toArray⟩, .int .i64 0]) (by simp [results, Tryz.results51, go_sem]) rfl ⟨ret_dec (by rw [Hd.out.2, Hbb.out]) Hd.out.1.symm, hb.trans (hb1.mono hsz)⟩
      · have he' : (eb.toList == s.toList) = false := by
          rw [beq_eq_false_iff_ne]; intro h; exact he (ba_ext (by simpa [ByteArray.toList_eq] using h))
        have Hd : Hid (decN form s = 3 ∧ decX form s = ⟨#[]⟩) := Hr1.out.2 he
        clear he Hr1
        go_wp2_with (first | (go_at_call 69; refine (hren _).mono ?_; rintro e w1 ⟨rfl, hb1⟩))
        exact bodyPost_ret (v := .tuple #[.string ⟨#[]⟩, .int .i64 3]) (by simp [results, Tryz.results51, go_sem]) rfl ⟨ret_dec Hd.out.2.symm Hd.out.1.symm, hb.trans (hb1.mono hsz)⟩

end Go.Proofs.YtfoeeocejcbmlaaGreatDoor
