import Derived.Test.YtfoeeocejcbmlaaGreatDoorUF
import Derived.Test.YtfoeeocejcbmlaaGreatDoorQG
namespace Go.Proofs.YtfoeeocejcbmlaaGreatDoor
open Go.RowKit
set_option linter.unusedVariables false
set_option linter.unusedSimpArgs false

theorem all_step (p : UInt8 → Bool) (s : ByteArray) (i : Nat) (h : i < s.size) : (s.data.toList.take (i + 1)).all p = ((s.data.toList.take i).all p && p (s[i]'h)) := by
  rw [List.take_add_one, List.getElem?_eq_getElem (by simpa using h), List.all_append]
  simp
  rfl
theorem all_bad (p : UInt8 → Bool) (s : ByteArray) (i : Nat) (h : i < s.size) (hb : p (s[i]'h) = false) : s.data.toList.all p = false := by
  cases ha : s.data.toList.all p with
  | false => rfl
  | true =>
    rw [List.all_eq_true] at ha
    have hm : (s[i]'h) ∈ s.data.toList := by
      have e : (s[i]'h) = s.data.toList[i]'(by simpa using h) := rfl
      rw [e]; exact List.getElem_mem _
    rw [ha _ hm] at hb; cases hb

theorem hostB_at (s : ByteArray) (i : Nat) (h : i < s.size) : hostB (s[i]'h) = decide ((97 ≤ (s[i]'h).toNat ∧ (s[i]'h).toNat ≤ 122) ∨ (48 ≤ (s[i]'h).toNat ∧ (s[i]'h).toNat ≤ 57) ∨ (s[i]'h).toNat = 45 ∨ (s[i]'h).toNat = 46) := rfl

set_option maxRecDepth 100000 in
set_option maxHeartbeats 2000000 in
theorem rhost_any (s : ByteArray) (w : World) (hs : s.size ≤ 1000000) :
    Calls Tryz.prog 29 #[.string s] w fun e w' => e = .returned (.bool (isHost s)) ∧ w' = w := by
  have HI : Hid (isHost s = (s.data.toList.all hostB && decide (1 ≤ s.size ∧ s.size ≤ 64))) := rfl
  go_enter Tryz.func29, Tryz.ntmps29
  go_wp2_with fail
  go_loopw [3] (fun iv wr => ∃ i : Nat, iv = .int .i64 (i : Int) ∧ wr = w ∧ i ≤ s.size ∧ (s.data.toList.take i).all hostB = true) (fun iv _ => s.size - (intOf iv).toNat)
  case atStart => exact ⟨0, rfl, rfl, Nat.zero_le _, rfl⟩
  case round =>
    obtain ⟨i, rfl, rfl, hi, hall⟩ := hrel
    have HALL : Hid ((s.data.toList.take i).all hostB = true) := hall
    clear hall
    by_cases hp : i < s.size
    · have hp' : (i : Int) < (s.size : Int) := by omega
      have hat := hostB_at s i hp
      have hst := all_step hostB s i hp
      have hbd := all_bad hostB s i hp
      have kd := fun W => digit6_any (s[i]'hp).toNat W
      have hdig : digB (s[i]'hp).toNat = decide (48 ≤ (s[i]'hp).toNat ∧ (s[i]'hp).toNat ≤ 57) := rfl
      rw [HALL.out, Bool.true_and] at hst
      generalize hostB (s[i]'hp) = hb at *
      generalize hx : (s[i]'hp).toNat = x at *
      generalize digB x = d at *
      have HX : Hid ((s[i]'hp).toNat = x) := hx
      have HST : Hid ((s.data.toList.take (i + 1)).all hostB = hb) := hst
      have HBD : Hid (hb = false → s.data.toList.all hostB = false) := hbd
      have HAT : Hid (hb = decide ((97 ≤ x ∧ x ≤ 122) ∨ (48 ≤ x ∧ x ≤ 57) ∨ x = 45 ∨ x = 46)) := hat
      clear hst hbd hat HALL
      by_cases c1 : 97 ≤ x
      · have c1' : (x : Int) ≥ 97 := by omega
        by_cases c2 : x ≤ 122
        · have c2' : (x : Int) ≤ 122 := by omega
          have HB : Hid (hb = true) := by show _ = _; rw [HAT.out, decide_eq_true_eq]; omega
          clear kd
          go_wp2_with fail
          go_roundw
          case rel => exact ⟨i + 1, by go_num, by trivial, by omega, by rw [HST.out, HB.out]⟩
          case measure => simp [intOf]; omega
        · have c2' : ¬ (x : Int) ≤ 122 := by omega
          have HB : Hid (hb = false) := by show _ = _; rw [HAT.out, decide_eq_false_iff_not]; omega
          obtain rfl : d = false := by rw [hdig, decide_eq_false_iff_not]; omega
          have e1 : ((x : Int) != 45) = true := by simp; omega
          have e2 : ((x : Int) != 46) = true := by simp; omega
          clear hdig
          go_wp2_with (go_at_call 48; refine (kd _).mono ?_; rintro e w1 ⟨rfl, rfl⟩)
          go_ret
          exact ⟨ret_bool (by rw [HI.out, HBD.out HB.out, Bool.false_and]), rfl⟩
      · have c1' : ¬ (x : Int) ≥ 97 := by omega
        by_cases c3 : 48 ≤ x ∧ x ≤ 57
        · have HB : Hid (hb = true) := by show _ = _; rw [HAT.out, decide_eq_true_eq]; omega
          obtain rfl : d = true := by rw [hdig, decide_eq_true_eq]; omega
          clear hdig c3
          go_wp2_with (go_at_call 48; refine (kd _).mono ?_; rintro e w1 ⟨rfl, rfl⟩)
          go_roundw
          case rel => exact ⟨i + 1, by go_num, by trivial, by omega, by rw [HST.out, HB.out]⟩
          case measure => simp [intOf]; omega
        · obtain rfl : d = false := by rw [hdig, decide_eq_false_iff_not]; omega
          by_cases c4 : x = 45
          · have HB : Hid (hb = true) := by show _ = _; rw [HAT.out, decide_eq_true_eq]; omega
            have e1 : ((x : Int) != 45) = false := by simp; omega
            clear hdig c3 c4
            go_wp2_with (go_at_call 48; refine (kd _).mono ?_; rintro e w1 ⟨rfl, rfl⟩)
            go_roundw
            case rel => exact ⟨i + 1, by go_num, by trivial, by omega, by rw [HST.out, HB.out]⟩
            case measure => simp [intOf]; omega
          · have e1 : ((x : Int) != 45) = true := by simp; omega
            by_cases c5 : x = 46
            · have HB : Hid (hb = true) := by show _ = _; rw [HAT.out, decide_eq_true_eq]; omega
              have e2 : ((x : Int) != 46) = false := by simp; omega
              clear hdig c3 c4 c5
              go_wp2_with (go_at_call 48; refine (kd _).mono ?_; rintro e w1 ⟨rfl, rfl⟩)
              go_roundw
              case rel => exact ⟨i + 1, by go_num, by trivial, by omega, by rw [HST.out, HB.out]⟩
              case measure => simp [intOf]; omega
            · have HB : Hid (hb = false) := by show _ = _; rw [HAT.out, decide_eq_false_iff_not]; omega
              have e2 : ((x : Int) != 46) = true := by simp; omega
              clear hdig c3 c4 c5
              go_wp2_with (go_at_call 48; refine (kd _).mono ?_; rintro e w1 ⟨rfl, rfl⟩)
              go_ret
              exact ⟨ret_bool (by rw [HI.out, HBD.out HB.out, Bool.false_and]), rfl⟩
    · have hp' : ¬ (i : Int) < (s.size : Int) := by omega
      have HT : Hid (s.data.toList.all hostB = true) := by
        show _ = _
        have := HALL.out
        rwa [List.take_of_length_le (by rw [size_list]; omega)] at this
      clear HALL
      by_cases h1 : 1 ≤ s.size
      · have h1' : (s.size : Int) ≥ 1 := by omega
        by_cases h2 : s.size ≤ 64
        · have h2' : (s.size : Int) ≤ 64 := by omega
          go_wp2_with fail
          go_ret
          exact ⟨ret_bool (by rw [HI.out, HT.out, decide_eq_true (⟨h1, h2⟩ : 1 ≤ s.size ∧ s.size ≤ 64)]; rfl), rfl⟩
        · have h2' : ¬ (s.size : Int) ≤ 64 := by omega
          go_wp2_with fail
          go_ret
          exact ⟨ret_bool (by rw [HI.out, HT.out, decide_eq_false (fun h : 1 ≤ s.size ∧ s.size ≤ 64 => h2 h.2)]; rfl), rfl⟩
      · have h1' : ¬ (s.size : Int) ≥ 1 := by omega
        go_wp2_with fail
        go_ret
        exact ⟨ret_bool (by rw [HI.out, HT.out, decide_eq_false (fun h : 1 ≤ s.size ∧ s.size ≤ 64 => h1 h.1)]; rfl), rfl⟩

theorem pathB_at (s : ByteArray) (i : Nat) (h : i < s.size) : pathB (s[i]'h) = (plainB (((s[i]'h).toNat : Nat) : Int) || decide ((s[i]'h).toNat = 47)) := by
  unfold pathB
  congr 1
  rw [Bool.eq_iff_iff, decide_eq_true_eq, decide_eq_true_eq, ← UInt8.toNat_inj]; rfl
theorem head47 (s : ByteArray) (h : 0 < s.size) : decide (s.data.toList.head? = some 47) = decide ((s[0]'h).toNat = 47) := by
  have e := tail_at s 0 h
  rw [List.drop_zero] at e
  rw [e, List.head?_cons, Bool.eq_iff_iff, decide_eq_true_eq, decide_eq_true_eq, Option.some_inj, ← UInt8.toNat_inj]; rfl

set_option maxRecDepth 100000 in
set_option maxHeartbeats 2000000 in
theorem rpath_any (s : ByteArray) (w : World) (hs : s.size ≤ 1000000) :
    Calls Tryz.prog 30 #[.string s] w fun e w' => e = .returned (.bool (isPath s)) ∧ w' = w := by
  have HI : Hid (isPath s = (s.data.toList.all pathB && decide (s.data.toList.head? = some 47))) := rfl
  go_enter Tryz.func30, Tryz.ntmps30
  go_wp2_with fail
  go_loopw [3] (fun iv wr => ∃ i : Nat, iv = .int .i64 (i : Int) ∧ wr = w ∧ i ≤ s.size ∧ (s.data.toList.take i).all pathB = true) (fun iv _ => s.size - (intOf iv).toNat)
  case atStart => exact ⟨0, rfl, rfl, Nat.zero_le _, rfl⟩
  case round =>
    obtain ⟨i, rfl, rfl, hi, hall⟩ := hrel
    have HALL : Hid ((s.data.toList.take i).all pathB = true) := hall
    clear hall
    by_cases hp : i < s.size
    · have hp' : (i : Int) < (s.size : Int) := by omega
      have hat := pathB_at s i hp
      have hst := all_step pathB s i hp
      have hbd := all_bad pathB s i hp
      have kd := fun W => plain6_any (s[i]'hp).toNat (s[i]'hp).toNat_lt W
      rw [HALL.out, Bool.true_and] at hst
      generalize pathB (s[i]'hp) = hb at *
      generalize hx : (s[i]'hp).toNat = x at *
      generalize plainB (x : Int) = d at *
      have HX : Hid ((s[i]'hp).toNat = x) := hx
      have HST : Hid ((s.data.toList.take (i + 1)).all pathB = hb) := hst
      have HBD : Hid (hb = false → s.data.toList.all pathB = false) := hbd
      have HAT : Hid (hb = (d || decide (x = 47))) := hat
      clear hst hbd hat HALL
      cases d with
      | true =>
        have HB : Hid (hb = true) := by show _ = _; rw [HAT.out]; rfl
        go_wp2_with (go_at_call 49; refine (kd _).mono ?_; rintro e w1 ⟨rfl, rfl⟩)
        go_roundw
        case rel => exact ⟨i + 1, by go_num, by trivial, by omega, by rw [HST.out, HB.out]⟩
        case measure => simp [intOf]; omega
      | false =>
        by_cases c1 : x = 47
        · have HB : Hid (hb = true) := by show _ = _; rw [HAT.out, decide_eq_true c1]; rfl
          have e1 : ((x : Int) == 47) = true := by simp; omega
          clear c1
          go_wp2_with (go_at_call 49; refine (kd _).mono ?_; rintro e w1 ⟨rfl, rfl⟩)
          go_roundw
          case rel => exact ⟨i + 1, by go_num, by trivial, by omega, by rw [HST.out, HB.out]⟩
          case measure => simp [intOf]; omega
        · have HB : Hid (hb = false) := by show _ = _; rw [HAT.out, decide_eq_false c1]; rfl
          have e1 : ((x : Int) == 47) = false := by simp; omega
          clear c1
          go_wp2_with (go_at_call 49; refine (kd _).mono ?_; rintro e w1 ⟨rfl, rfl⟩)
          go_ret
          exact ⟨ret_bool (by rw [HI.out, HBD.out HB.out, Bool.false_and]), rfl⟩
    · have hp' : ¬ (i : Int) < (s.size : Int) := by omega
      have HT : Hid (s.data.toList.all pathB = true) := by
        show _ = _
        have := HALL.out
        rwa [List.take_of_length_le (by rw [size_list]; omega)] at this
      clear HALL
      by_cases h1 : 0 < s.size
      · have h1' : (s.size : Int) ≥ 1 := by omega
        have hh := head47 s h1
        generalize hx : (s[0]'h1).toNat = x at *
        have HX : Hid ((s[0]'h1).toNat = x) := hx
        have HI2 : Hid (isPath s = decide (x = 47)) := by show _ = _; rw [HI.out, HT.out, hh]; rfl
        clear hh
        by_cases c1 : x = 47
        · have HI3 : Hid (isPath s = true) := by show _ = _; rw [HI2.out, decide_eq_true c1]
          have e1 : ((x : Int) == 47) = true := by simp; omega
          clear c1
          go_wp2_with fail
          go_ret
          exact ⟨ret_bool HI3.out.symm, rfl⟩
        · have HI3 : Hid (isPath s = false) := by show _ = _; rw [HI2.out, decide_eq_false c1]
          have e1 : ((x : Int) == 47) = false := by simp; omega
          clear c1
          go_wp2_with fail
          go_ret
          exact ⟨ret_bool HI3.out.symm, rfl⟩
      · have h1' : ¬ (s.size : Int) ≥ 1 := by omega
        have HI3 : Hid (isPath s = false) := by
          show _ = _
          have : s.data.toList = [] := List.eq_nil_of_length_eq_zero (by rw [size_list]; omega)
          rw [HI.out, this]; rfl
        go_wp2_with fail
        go_ret
        exact ⟨ret_bool HI3.out.symm, rfl⟩

theorem drewN_two {w w1 : World} {m : Nat} (h : w1 = w.drewN m) (q : Nat) : ∃ k, w1.drewN q = w.drewN k := by
  subst h
  exact ⟨m + q, by simp [World.drewN, Nat.add_assoc]⟩

set_option maxRecDepth 100000 in
set_option maxHeartbeats 1000000 in
theorem unl_any (l : List Fd) (v : Value) (w : World) (hl : l.length ≤ 1000000) (hv : RowF w v l) :
    Calls Tryz.prog 54 #[v] w fun e w' => e = .returned (.bool (unlB l)) ∧ ∃ m, w' = w.drewN m := by
  have HV : Hid (RowF w v l) := hv
  have HU := unlB_is l
  obtain ⟨A, cap, rfl, hcp, _⟩ := hv
  generalize unlB l = b at *
  have HUU : Hid (b = true ↔ Unl l) := HU
  clear HU
  go_enter Tryz.func54, Tryz.ntmps54
  go_wp2_with fail
  go_loopw [3] (fun iv wr => ∃ i : Nat, iv = .int .i64 (i : Int) ∧ i ≤ l.length ∧ (∀ j, j < i → (l.getD j fd0).1.size ≠ 0 ∧ hasF (l.take j) (l.getD j fd0).1 = false) ∧ ∃ m, wr = w.drewN m) (fun iv _ => l.length - (intOf iv).toNat)
  case atStart => exact ⟨0, rfl, Nat.zero_le _, fun j hj => absurd hj (by omega), 0, rfl⟩
  case round =>
    obtain ⟨i, rfl, hi, hun, m, hwr⟩ := hrel
    have HW : Hid (wr = w.drewN m) := hwr
    have HUN : Hid (∀ j, j < i → (l.getD j fd0).1.size ≠ 0 ∧ hasF (l.take j) (l.getD j fd0).1 = false) := hun
    have HVR : Hid (RowF wr (.slice A l.length cap) l) := by show RowF _ _ _; rw [hwr]; exact HV.out.drewN m
    clear hun hwr
    by_cases hp : i < l.length
    · have hp' : (i : Int) < (l.length : Int) := by omega
      have hp2 : (0 : Int) ≤ (i : Int) := by omega
      have hp3 : (i : Int) ≤ (cap : Int) := by omega
      have hsz := HVR.out.take i hi
      obtain ⟨b0, o, rfl, hbl, hc⟩ := HVR.out.hold (by omega)
      obtain ⟨c1, _⟩ := hc i hp
      have emp : (⟨#[]⟩ : ByteArray).toList = [] := by rw [ByteArray.toList_eq]
      have hh := fun W (h : RowF W (.slice (some ⟨b0, o, none⟩) i cap) (l.take i)) => rhas_any (l.take i) _ (l.getD i fd0).1 W (by rw [List.length_take]; omega) h
      have hq : ∀ q, RowF (wr.drewN q) (.slice (some ⟨b0, o, none⟩) i cap) (l.take i) := fun q => hsz.drewN q
      have HNX : Hid (((l.getD i fd0).1.size ≠ 0 ∧ hasF (l.take i) (l.getD i fd0).1 = false) → ∀ j, j < i + 1 → (l.getD j fd0).1.size ≠ 0 ∧ hasF (l.take j) (l.getD j fd0).1 = false) := fun h j hj => by
        rcases Nat.lt_or_ge j i with h1 | h1
        · exact HUN.out j h1
        · obtain rfl : j = i := by omega
          exact h
      have HNO : Hid (¬ ((l.getD i fd0).1.size ≠ 0 ∧ hasF (l.take i) (l.getD i fd0).1 = false) → b = false) := fun h => by
        cases hb : b with
        | false => rfl
        | true => exact absurd (HUU.out.1 hb i hp) h
      clear hc HUN
      by_cases h0 : (l.getD i fd0).1.size = 0
      · have hem := empL_of h0
        have HB : Hid (b = false) := HNO.out (fun h => h.1 h0)
        generalize (l.getD i fd0).1 = x at *
        clear h0 HNX HNO
        go_wp2_with fail
        go_quiet (fail)
        go_wp2_with fail
        go_ret
        exact ⟨ret_bool HB.out.symm, drewN_two HW.out _⟩
      · have hem := empL_no h0
        by_cases h2 : hasF (l.take i) (l.getD i fd0).1 = true
        · have HB : Hid (b = false) := HNO.out (fun h => by rw [h2] at h; exact absurd h.2 (by decide))
          rw [h2] at hh
          generalize (l.getD i fd0).1 = x at *
          clear h0 HNX HNO h2
          go_wp2_with fail
          go_quiet ((go_at_call 52; exact Calls.quiet_of_same (hh _ (hq _))))
          go_wp2_with fail
          go_ret
          exact ⟨ret_bool HB.out.symm, drewN_two HW.out _⟩
        · have h2' : hasF (l.take i) (l.getD i fd0).1 = false := by simpa using h2
          have HN : Hid (∀ j, j < i + 1 → (l.getD j fd0).1.size ≠ 0 ∧ hasF (l.take j) (l.getD j fd0).1 = false) := HNX.out ⟨h0, h2'⟩
          rw [h2'] at hh
          clear HNX HNO h2 h2' h0
          generalize (l.getD i fd0).1 = x at *
          go_wp2_with fail
          go_quiet ((go_at_call 52; exact Calls.quiet_of_same (hh _ (hq _))))
          go_wp2_with fail
          go_roundw
          case rel => exact ⟨i + 1, by go_num, by omega, HN.out, drewN_two HW.out _⟩
          case measure => simp [intOf]; omega
    · have hp' : ¬ (i : Int) < (l.length : Int) := by omega
      have HB : Hid (b = true) := HUU.out.2 (fun j hj => HUN.out j (by omega))
      go_wp2_with fail
      go_ret
      exact ⟨ret_bool HB.out.symm, m, HW.out⟩

set_option maxRecDepth 100000 in
set_option maxHeartbeats 1000000 in
theorem rtarget_any (u : Ur) (q : Value) (w : World) (hq : RowF w q u.2.2) (hl : u.2.2.length ≤ 100000) (hs : sumF u.2.2 ≤ 100000) (h2 : u.2.1.size ≤ 100000) :
    Calls Tryz.prog 38 #[.agg #[.string u.1, .string u.2.1, q]] w fun e w' => e = .returned (.string (tgtS u)) ∧ Below w.heap.size w w' := by
  have HV : Hid (RowF w q u.2.2) := hq
  have HT : Hid (tgtS u = if u.2.2 = [] then u.2.1 else u.2.1 ++ ⟨#[63]⟩ ++ prS u.2.2) := rfl
  obtain ⟨A, cap, rfl, hcp, _⟩ := hq
  obtain ⟨h, p, l⟩ := u
  dsimp only at *
  have b1 : Below w.heap.size w (w.alloc (.cells #[.string h, .string p, .slice A l.length cap] 28)) := (Below.refl _ _).alloc (Nat.le_refl _) _
  have x1 := BoxU.new w (.string h) (.string p) (.slice A l.length cap) 28
  by_cases hn : l = []
  · have hlen : l.length = 0 := by rw [hn]; rfl
    have HT2 : Hid (tgtS (h, p, l) = p) := by show _ = _; rw [HT.out, if_pos hn]
    clear hn HT
    rw [hlen]
    go_enter Tryz.func38, Tryz.ntmps38
    go_wp2_with fail
    go_ret
    exact ⟨ret_str HT2.out.symm, (by repeat (first | exact Below.refl _ _ | assumption | refine below_drewN ?_ _ | refine Below.drew ?_ | refine Below.alloc ?_ (by simp <;> omega) _ | refine Below.setCell ?_ (by simp <;> omega) _))⟩
  · have hlen : ¬ ((l.length : Nat) : Int) = 0 := by
      intro e; exact hn (List.eq_nil_of_length_eq_zero (by omega))
    have hlenb : (((l.length : Nat) : Int) == 0) = false := by simpa using hlen
    have HT2 : Hid (tgtS (h, p, l) = p ++ ⟨#[63]⟩ ++ prS l) := by show _ = _; rw [HT.out, if_neg hn]
    have HPR : Hid (∀ W, Below w.heap.size w W → Calls Tryz.prog 55 #[.slice A l.length cap] W fun e w' => e = .returned (.string (prS l)) ∧ Below W.heap.size W w') := fun W hw => rprint_any l _ W hl hs (HV.out.below hw)
    have hpl : (prS l).size ≤ 500000 := by have := (prL_len l).1; have := prS_size l; omega
    generalize prS l = pl at *
    have z1 : ¬ 9223372036854775807 < p.size + 1 := by omega
    have z2 : ¬ 9223372036854775807 < p.size + 1 + pl.size := by omega
    clear hn HT
    go_enter Tryz.func38, Tryz.ntmps38
    go_wp2_with fail
    generalize w.alloc (.cells #[.string h, .string p, .slice A l.length cap] 28) = w1 at *
    have X1 : Hid (BoxU w1 w.heap.size (.string h) (.string p) (.slice A l.length cap)) := x1
    go_region_held3 (fun W => BoxU W w.heap.size (.string h) (.string p) (.slice A l.length cap) ∧ Below w.heap.size w W)
      (first | assumption | exact ⟨X1.out, b1⟩ | exact ⟨X1.out.below (Below.drew (Below.refl _ _)), b1.drew⟩ | exact ⟨x2, b2⟩)
      (first
        | (go_at_call 55; have hS := (by with_reducible assumption : BoxU _ w.heap.size (.string h) (.string p) (.slice A l.length cap) ∧ Below w.heap.size w _); refine (HPR.out _ hS.2).mono ?_; rintro e w2 ⟨rfl, hb2⟩; have b2 := hS.2.trans (hb2.mono hS.2.size); have x2 := BoxU.below hS.1 hb2))
    all_goals go_wp2_with fail
    all_goals go_ret
    all_goals exact ⟨ret_str HT2.out.symm, b2⟩

end Go.Proofs.YtfoeeocejcbmlaaGreatDoor
