import Derived.Test.YtfmkkalidcjilaaDoorLPctAll
namespace Go.Proofs.YtfmkkalidcjilaaDoor
open Go.RowKit
set_option linter.unusedVariables false
set_option linter.unusedSimpArgs false

/-- Three texts stand in block g. -/
def Row3 (g : Nat) (a b c : ByteArray) (w : World) : Prop :=
  w.cell? ⟨g, 0, none⟩ = some (.string a) ∧ w.cell? ⟨g, 1, none⟩ = some (.string b) ∧ w.cell? ⟨g, 2, none⟩ = some (.string c)

theorem Row3.below {g : Nat} {a b c : ByteArray} {w w' : World} (h : Row3 g a b c w) (hg : g < w.heap.size) (hb : Below w.heap.size w w') : Row3 g a b c w' := by
  obtain ⟨h0, h1, h2⟩ := h
  exact ⟨by rw [hb.cell (by simpa using hg)]; exact h0, by rw [hb.cell (by simpa using hg)]; exact h1, by rw [hb.cell (by simpa using hg)]; exact h2⟩

theorem Row3.at {g : Nat} {a b c : ByteArray} {w : World} (h : Row3 g a b c w) (N : Nat) (ha : a.size ≤ N) (hb : b.size ≤ N) (hc : c.size ≤ N) (i : Nat) (hi : i < 3) : ∃ x : ByteArray, x.size ≤ N ∧ w.cell? ⟨g, i, none⟩ = some (.string x) := by
  obtain ⟨h0, h1, h2⟩ := h
  rcases (show i = 0 ∨ i = 1 ∨ i = 2 by omega) with rfl | rfl | rfl
  · exact ⟨a, ha, h0⟩
  · exact ⟨b, hb, h1⟩
  · exact ⟨c, hc, h2⟩

theorem decX_len (form : Bool) (s : ByteArray) : (decX form s).size ≤ s.size := by
  rcases dec_case form s with ⟨_, h⟩ | ⟨_, h, _⟩
  · have h2 : ∀ l : List UInt8, l.length ≤ (encL form l).length := by
      intro l
      induction l with
      | nil => simp
      | cons c l ih => rw [encL_cons, List.length_append, List.length_cons]; have := wr_pos form c; omega
    have h3 := h2 (decX form s).data.toList
    have h4 : (encL form (decX form s).data.toList).length = s.size := by rw [← size_list, ← congrArg (fun x : ByteArray => x.data.toList.length) h]; rfl
    rw [size_list] at h3; omega
  · rw [h]; exact Nat.zero_le _

set_option maxRecDepth 100000 in
set_option maxHeartbeats 2000000 in
theorem pctOnly_any (raw : ByteArray) (ns : List Int) (LA : Option Addr) (cap : Nat) (form : Bool) (w : World) (hns : NumsAt w w.heap.size ns LA) (hf : NumsFit ns) (ht : Tab16 w.heap.size w) :
    Calls Tryd.prog 5 #[.string raw, .slice LA ns.length cap, .bool form] w fun e w' => e = .returned (.bool true) ∧ Below w.heap.size w w' := by
  go_enter Tryd.func5, Tryd.ntmps5
  go_wp2_with fail
  refine (known7_any w ht).mono ?_
  rintro e w1 ⟨rfl, h1⟩
  by_cases ha : raw.size ≤ 300
  · have ha' : ¬ (raw.size : Int) > 300 := by omega
    have hsm := someF_small ns 20 0 ByteArray.empty
    rw [show ByteArray.empty.size = 0 from rfl] at hsm
    have k1 : ∀ W, Below w.heap.size w W → Calls Tryd.prog 8 #[.slice LA ns.length cap, .int .i64 20] W fun e w' => e = .returned (.string (someF ns 20 0 ByteArray.empty)) ∧ Below W.heap.size W w' := fun W hW => some_any ns LA cap w.heap.size 20 (by decide) W hW.size (hns.below hW) hf
    generalize someF ns 20 0 ByteArray.empty = s at *
    have ea := encS_size form s
    have k2 := renc_at s (by omega) form _ rfl
    generalize encS form s = xs at *
    have l1 : s.size + 3 ≤ 9223372036854775807 := by omega
    have l2 : s.size + 3 + raw.size ≤ 9223372036854775807 := by omega
    have Htab : Hid (Tab16 w.heap.size w) := ht
    clear ht hns
    go_wp2_with fail
    refine (k1 _ h1).mono ?_
    rintro e w2 ⟨rfl, h2⟩
    replace h2 := below_tr h1 h2
    go_wp2_with fail
    refine (k2 _).mono ?_
    rintro e w3 ⟨rfl, h3⟩
    replace h3 := below_tr h2 h3
    go_wp2_with fail
    refine (k1 _ h3).mono ?_
    rintro e w4 ⟨rfl, h4⟩
    replace h4 := below_tr h3 h4
    have s4 := h4.size
    clear k1 k2 h1 h2 h3
    go_wp2_with fail
    have hrow : Row3 w4.heap.size raw xs (s ++ ⟨#[37, 50, 70]⟩ ++ raw) (w4.alloc (.cells #[.string raw, .string xs, .string (s ++ ⟨#[37, 50, 70]⟩ ++ raw)] 9)) := ⟨by simp [go_sem], by simp [go_sem], by simp [go_sem]⟩
    have hb5 : Below w.heap.size w (w4.alloc (.cells #[.string raw, .string xs, .string (s ++ ⟨#[37, 50, 70]⟩ ++ raw)] 9)) := h4.alloc s4 _
    have hsz5 : w4.heap.size < (w4.alloc (.cells #[.string raw, .string xs, .string (s ++ ⟨#[37, 50, 70]⟩ ++ raw)] 9)).heap.size := by simp
    have la : (s ++ ⟨#[37, 50, 70]⟩ ++ raw).size ≤ 1000 := by rw [ByteArray.size_append, ByteArray.size_append, show (⟨#[37, 50, 70]⟩ : ByteArray).size = 3 from rfl]; omega
    generalize hx4 : s ++ ⟨#[37, 50, 70]⟩ ++ raw = xx at *
    generalize w4.alloc (.cells #[.string raw, .string xs, .string xx] 9) = w5 at *
    generalize w4.heap.size = g at *
    clear hx4 h4
    go_loopw [8] (fun iv wr => ∃ i : Nat, iv = .int .i64 (i : Int) ∧ i ≤ 3 ∧ Below w5.heap.size w5 wr) (fun iv _ => 3 - (intOf iv).toNat)
    case atStart => exact ⟨0, rfl, by omega, Below.refl _ _⟩
    case round =>
      obtain ⟨i, rfl, hi, hb⟩ := hrel
      have hsr := hb.size
      by_cases hp : i < 3
      · have hp' : (i : Int) < 3 := by omega
        obtain ⟨x, hx, hcell⟩ := (hrow.below hsz5 hb).at 1000 (by omega) (by omega) la i hp
        have hbw : Below w.heap.size w wr := hb5.trans (hb.mono hb5.size)
        rcases dec_case form x with ⟨e1, e2⟩ | ⟨e1, e2, _⟩
        · have k1 := dec_at Htab.out x (by omega) form _ _ rfl e1
          have dl := decX_len form x
          have k3 := enc_at Htab.out (decX form x) (by omega) form x e2
          clear e1 e2
          generalize decX form x = dx at *
          go_wp2_with fail
          refine (k1 _ hbw).mono ?_
          rintro e w6 ⟨rfl, h6⟩
          have c6 := (h6.cell (p := ⟨g, i, none⟩) (by show g < _; omega)).trans hcell
          have b6 := below_tr hbw h6
          have bb6 := hb.trans (h6.mono hsr)
          have hs6 := h6.size
          clear hcell
          go_wp2_with fail
          refine wp_region_held_drew (S := fun W => W.cell? ⟨g, i, none⟩ = some (.string x) ∧ Below w6.heap.size w6 W) (by kernel_rfl) (⟨c6, Below.drew (Below.refl _ _)⟩) (fun hHeld => ?_)
          refine wpAnyH_take (i := 0) (oi := { dst := some 40, op := Op.move (Operand.tmp 10), type := 27, pos := "law.go:62", after := #[], guard := none }) (v := ?vo0) rfl (by kernel_rfl) (by kernel_rfl) (by kernel_rfl) (fun _ _ _ h => h) (Or.inl ⟨by rfl, ?yo0⟩) (by assumption) ?ro0
          case yo0 => (intro w hSw; (try dsimp only at hSw); go_simp <;> with_reducible rfl)
          try simp only [Act.put, List.setIfInBounds_toArray, List.set_cons_zero, List.set_cons_succ]
          refine wpAnyH_take (i := 1) (oi := { dst := some 41, op := Op.binOp BinOp.neq 27 (Operand.tmp 40) (Operand.const (Value.int IntKind.i64 0)) 27, type := 4, pos := "law.go:62", after := #[{ on := 0, ground := Ground.data }], guard := none }) (v := ?vo1) rfl (by kernel_rfl) (by kernel_rfl) (by kernel_rfl) (fun _ _ _ h => h) (Or.inl ⟨by rfl, ?yo1⟩) (by assumption) ?ro1
          case yo1 => (intro w hSw; (try dsimp only at hSw); go_simp <;> with_reducible rfl)
          try simp only [Act.put, List.setIfInBounds_toArray, List.set_cons_zero, List.set_cons_succ]
          refine wpAnyH_take (i := 2) (oi := { dst := some 42, op := Op.move (Operand.tmp 41), type := 4, pos := "law.go:62", after := #[{ on := 1, ground := Ground.data }], guard := none }) (v := ?vo2) rfl (by kernel_rfl) (by kernel_rfl) (by kernel_rfl) (fun _ _ _ h => h) (Or.inl ⟨by rfl, ?yo2⟩) (by assumption) ?ro2
          case yo2 => (intro w hSw; (try dsimp only at hSw); go_simp <;> with_reducible rfl)
          try simp only [Act.put, List.setIfInBounds_toArray, List.set_cons_zero, List.set_cons_succ]
          refine wpAnyH_take (i := 3) (oi := { dst := some 43, op := Op.move (Operand.tmp 10), type := 27, pos := "law.go:62", after := #[{ on := 2, ground := Ground.guard }], guard := some (2, true) }) (v := undef) rfl (by kernel_rfl) (by kernel_rfl) (by kernel_rfl) (fun _ _ _ h => h) (Or.inr ⟨by rfl, rfl⟩) (by assumption) ?_
          try simp only [Act.put, List.setIfInBounds_toArray, List.set_cons_zero, List.set_cons_succ]
          refine wpAnyH_take (i := 4) (oi := { dst := some 44, op := Op.binOp BinOp.neq 27 (Operand.tmp 43) (Operand.const (Value.int IntKind.i64 3)) 27, type := 4, pos := "law.go:62", after := #[{ on := 3, ground := Ground.data }, { on := 2, ground := Ground.guard }], guard := some (2, true) }) (v := undef) rfl (by kernel_rfl) (by kernel_rfl) (by kernel_rfl) (fun _ _ _ h => h) (Or.inr ⟨by rfl, rfl⟩) (by assumption) ?_
          try simp only [Act.put, List.setIfInBounds_toArray, List.set_cons_zero, List.set_cons_succ]
          refine wpAnyH_take (i := 5) (oi := { dst := some 45, op := Op.pick (Operand.tmp 42) (Operand.tmp 44) (Operand.const (Value.bool false)), type := 4, pos := "law.go:62", after := #[{ on := 2, ground := Ground.data }, { on := 4, ground := Ground.data }], guard := none }) (v := ?vo5) rfl (by kernel_rfl) (by kernel_rfl) (by kernel_rfl) (fun _ _ _ h => h) (Or.inl ⟨by rfl, ?yo5⟩) (by assumption) ?ro5
          case yo5 => (intro w hSw; (try dsimp only at hSw); go_simp <;> with_reducible rfl)
          try simp only [Act.put, List.setIfInBounds_toArray, List.set_cons_zero, List.set_cons_succ]
          refine wpAnyH_take (i := 6) (oi := { dst := some 46, op := Op.move (Operand.tmp 45), type := 4, pos := "law.go:62", after := #[{ on := 5, ground := Ground.data }, { on := 2, ground := Ground.chain }], guard := none }) (v := ?vo6) rfl (by kernel_rfl) (by kernel_rfl) (by kernel_rfl) (fun _ _ _ h => h) (Or.inl ⟨by rfl, ?yo6⟩) (by assumption) ?ro6
          case yo6 => (intro w hSw; (try dsimp only at hSw); go_simp <;> with_reducible rfl)
          try simp only [Act.put, List.setIfInBounds_toArray, List.set_cons_zero, List.set_cons_succ]
          refine wpAnyH_take (i := 7) (oi := { dst := some 47, op := Op.move (Operand.tmp 10), type := 27, pos := "law.go:62", after := #[{ on := 6, ground := Ground.guard }], guard := some (6, false) }) (v := ?vo7) rfl (by kernel_rfl) (by kernel_rfl) (by kernel_rfl) (fun _ _ _ h => h) (Or.inl ⟨by rfl, ?yo7⟩) (by assumption) ?ro7
          case yo7 => (intro w hSw; (try dsimp only at hSw); go_simp <;> with_reducible rfl)
          try simp only [Act.put, List.setIfInBounds_toArray, List.set_cons_zero, List.set_cons_succ]
          refine wpAnyH_take (i := 8) (oi := { dst := some 48, op := Op.binOp BinOp.eql 27 (Operand.tmp 47) (Operand.const (Value.int IntKind.i64 0)) 27, type := 4, pos := "law.go:62", after := #[{ on := 7, ground := Ground.data }, { on := 6, ground := Ground.guard }], guard := some (6, false) }) (v := ?vo8) rfl (by kernel_rfl) (by kernel_rfl) (by kernel_rfl) (fun _ _ _ h => h) (Or.inl ⟨by rfl, ?yo8⟩) (by assumption) ?ro8
          case yo8 => (intro w hSw; (try dsimp only at hSw); go_simp <;> with_reducible rfl)
          try simp only [Act.put, List.setIfInBounds_toArray, List.set_cons_zero, List.set_cons_succ]
          refine wpAnyH_take (i := 9) (oi := { dst := some 49, op := Op.move (Operand.tmp 48), type := 4, pos := "law.go:62", after := #[{ on := 8, ground := Ground.data }, { on := 6, ground := Ground.chain }, { on := 6, ground := Ground.guard }], guard := some (6, false) }) (v := ?vo9) rfl (by kernel_rfl) (by kernel_rfl) (by kernel_rfl) (fun _ _ _ h => h) (Or.inl ⟨by rfl, ?yo9⟩) (by assumption) ?ro9
          case yo9 => (intro w hSw; (try dsimp only at hSw); go_simp <;> with_reducible rfl)
          try simp only [Act.put, List.setIfInBounds_toArray, List.set_cons_zero, List.set_cons_succ]
          refine wpAnyH_take (i := 10) (oi := { dst := some 50, op := Op.move (Operand.tmp 9), type := 9, pos := "law.go:62", after := #[{ on := 9, ground := Ground.guard }], guard := some (9, true) }) (v := ?vo10) rfl (by kernel_rfl) (by kernel_rfl) (by kernel_rfl) (fun _ _ _ h => h) (Or.inl ⟨by rfl, ?yo10⟩) (by assumption) ?ro10
          case yo10 => (intro w hSw; (try dsimp only at hSw); go_simp <;> with_reducible rfl)
          try simp only [Act.put, List.setIfInBounds_toArray, List.set_cons_zero, List.set_cons_succ]
          refine wpAnyH_take (i := 11) (oi := { dst := some 51, op := Op.move (Operand.tmp 2), type := 4, pos := "law.go:62", after := #[{ on := 9, ground := Ground.guard }], guard := some (9, true) }) (v := ?vo11) rfl (by kernel_rfl) (by kernel_rfl) (by kernel_rfl) (fun _ _ _ h => h) (Or.inl ⟨by rfl, ?yo11⟩) (by assumption) ?ro11
          case yo11 => (intro w hSw; (try dsimp only at hSw); go_simp <;> with_reducible rfl)
          try simp only [Act.put, List.setIfInBounds_toArray, List.set_cons_zero, List.set_cons_succ]
          refine wpAnyH_take (i := 13) (oi := { dst := some 53, op := Op.move (Operand.tmp 7), type := 26, pos := "law.go:62", after := #[{ on := 9, ground := Ground.guard }], guard := some (9, true) }) (v := ?vo13) rfl (by kernel_rfl) (by kernel_rfl) (by kernel_rfl) (fun _ _ _ h => h) (Or.inl ⟨by rfl, ?yo13⟩) (by assumption) ?ro13
          case yo13 => (intro w hSw; (try dsimp only at hSw); go_simp <;> with_reducible rfl)
          try simp only [Act.put, List.setIfInBounds_toArray, List.set_cons_zero, List.set_cons_succ]
          refine wpAnyH_take (i := 14) (oi := { dst := some 54, op := Op.move (Operand.tmp 8), type := 3, pos := "law.go:62", after := #[{ on := 9, ground := Ground.guard }], guard := some (9, true) }) (v := ?vo14) rfl (by kernel_rfl) (by kernel_rfl) (by kernel_rfl) (fun _ _ _ h => h) (Or.inl ⟨by rfl, ?yo14⟩) (by assumption) ?ro14
          case yo14 => (intro w hSw; (try dsimp only at hSw); go_simp <;> with_reducible rfl)
          try simp only [Act.put, List.setIfInBounds_toArray, List.set_cons_zero, List.set_cons_succ]
          refine wpAnyH_take (i := 15) (oi := { dst := some 55, op := Op.indexAddr 26 (Operand.tmp 53) (Operand.tmp 54), type := 0, pos := "law.go:62", after := #[{ on := 13, ground := Ground.data }, { on := 14, ground := Ground.data }, { on := 9, ground := Ground.guard }], guard := some (9, true) }) (v := ?vo15) rfl (by kernel_rfl) (by kernel_rfl) (by kernel_rfl) (fun _ _ _ h => h) (Or.inl ⟨by rfl, ?yo15⟩) (by assumption) ?ro15
          case yo15 => (intro w hSw; (try dsimp only at hSw); go_simp <;> with_reducible rfl)
          try simp only [Act.put, List.setIfInBounds_toArray, List.set_cons_zero, List.set_cons_succ]
          refine wpAnyH_take (i := 16) (oi := { dst := some 56, op := Op.load 9 (Operand.tmp 55), type := 9, pos := "law.go:62", after := #[{ on := 15, ground := Ground.data }, { on := 9, ground := Ground.guard }], guard := some (9, true) }) (v := ?vo16) rfl (by kernel_rfl) (by kernel_rfl) (by kernel_rfl) (fun _ _ _ h => h) (Or.inl ⟨by rfl, ?yo16⟩) (by assumption) ?ro16
          case yo16 => (intro w hSw; (try dsimp only at hSw); go_simp <;> with_reducible rfl)
          try simp only [Act.put, List.setIfInBounds_toArray, List.set_cons_zero, List.set_cons_succ]
          refine wpAnyH_ready (rs := [12]) (by kernel_rfl) (by simp) (AllReadyH.cons (o := { dst := some 52, op := Op.call { callee := Callee.value (Operand.func 12), args := #[Operand.tmp 50, Operand.tmp 51], argTypes := #[9, 4] }, type := 9, pos := "law.go:62", after := #[{ on := 10, ground := Ground.data }, { on := 11, ground := Ground.data }, { on := 9, ground := Ground.chain }, { on := 9, ground := Ground.guard }], guard := some (9, true) }) rfl (fun K hK => ?_) AllReadyH.nil)
          go_simp
          refine (k3 _ (b6.trans (Below.mono (And.right hHeld) (by omega)))).mono ?_
          rintro e w8 ⟨rfl, h8'⟩
          have h8 : Below w6.heap.size w6 w8 := Below.trans (And.right hHeld) (h8'.mono (Below.size (And.right hHeld)))
          have c8 := (h8.cell (p := ⟨g, i, none⟩) (by show g < _; omega)).trans c6
          go_wp2_with fail
          refine hK.out _ _ (⟨c8, h8⟩) (fun hHeld => ?_)
          clear hK K
          try simp only [Act.put, List.setIfInBounds_toArray, List.set_cons_zero, List.set_cons_succ]
          refine wpAnyH_take (i := 17) (oi := { dst := some 57, op := Op.binOp BinOp.neq 9 (Operand.tmp 52) (Operand.tmp 56) 9, type := 4, pos := "law.go:62", after := #[{ on := 12, ground := Ground.data }, { on := 16, ground := Ground.data }, { on := 9, ground := Ground.guard }], guard := some (9, true) }) (v := ?vo17) rfl (by kernel_rfl) (by kernel_rfl) (by kernel_rfl) (fun _ _ _ h => h) (Or.inl ⟨by rfl, ?yo17⟩) (by assumption) ?ro17
          case yo17 => (intro w hSw; (try dsimp only at hSw); go_simp <;> with_reducible rfl)
          try simp only [Act.put, List.setIfInBounds_toArray, List.set_cons_zero, List.set_cons_succ]
          refine wpAnyH_take (i := 18) (oi := { dst := some 58, op := Op.pick (Operand.tmp 49) (Operand.tmp 57) (Operand.const (Value.bool false)), type := 4, pos := "law.go:62", after := #[{ on := 9, ground := Ground.data }, { on := 17, ground := Ground.data }, { on := 6, ground := Ground.guard }], guard := some (6, false) }) (v := ?vo18) rfl (by kernel_rfl) (by kernel_rfl) (by kernel_rfl) (fun _ _ _ h => h) (Or.inl ⟨by rfl, ?yo18⟩) (by assumption) ?ro18
          case yo18 => (intro w hSw; (try dsimp only at hSw); go_simp <;> with_reducible rfl)
          try simp only [Act.put, List.setIfInBounds_toArray, List.set_cons_zero, List.set_cons_succ]
          refine wpAnyH_take (i := 19) (oi := { dst := some 59, op := Op.pick (Operand.tmp 46) (Operand.const (Value.bool true)) (Operand.tmp 58), type := 4, pos := "law.go:62", after := #[{ on := 6, ground := Ground.data }, { on := 18, ground := Ground.data }], guard := none }) (v := ?vo19) rfl (by kernel_rfl) (by kernel_rfl) (by kernel_rfl) (fun _ _ _ h => h) (Or.inl ⟨by rfl, ?yo19⟩) (by assumption) ?ro19
          case yo19 => (intro w hSw; (try dsimp only at hSw); go_simp <;> with_reducible rfl)
          try simp only [Act.put, List.setIfInBounds_toArray, List.set_cons_zero, List.set_cons_succ]
          refine wpAnyH_take (i := 20) (oi := { dst := some 60, op := Op.move (Operand.tmp 59), type := 4, pos := "law.go:62", after := #[{ on := 19, ground := Ground.data }, { on := 12, ground := Ground.chain }], guard := none }) (v := ?vo20) rfl (by kernel_rfl) (by kernel_rfl) (by kernel_rfl) (fun _ _ _ h => h) (Or.inl ⟨by rfl, ?yo20⟩) (by assumption) ?ro20
          case yo20 => (intro w hSw; (try dsimp only at hSw); go_simp <;> with_reducible rfl)
          try simp only [Act.put, List.setIfInBounds_toArray, List.set_cons_zero, List.set_cons_succ]
          refine wpAnyH_take (i := 21) (oi := { dst := some 61, op := Op.move (Operand.tmp 10), type := 27, pos := "law.go:62", after := #[{ on := 20, ground := Ground.guard }], guard := some (20, false) }) (v := ?vo21) rfl (by kernel_rfl) (by kernel_rfl) (by kernel_rfl) (fun _ _ _ h => h) (Or.inl ⟨by rfl, ?yo21⟩) (by assumption) ?ro21
          case yo21 => (intro w hSw; (try dsimp only at hSw); go_simp <;> with_reducible rfl)
          try simp only [Act.put, List.setIfInBounds_toArray, List.set_cons_zero, List.set_cons_succ]
          refine wpAnyH_take (i := 22) (oi := { dst := some 62, op := Op.binOp BinOp.neq 27 (Operand.tmp 61) (Operand.const (Value.int IntKind.i64 0)) 27, type := 4, pos := "law.go:62", after := #[{ on := 21, ground := Ground.data }, { on := 20, ground := Ground.guard }], guard := some (20, false) }) (v := ?vo22) rfl (by kernel_rfl) (by kernel_rfl) (by kernel_rfl) (fun _ _ _ h => h) (Or.inl ⟨by rfl, ?yo22⟩) (by assumption) ?ro22
          case yo22 => (intro w hSw; (try dsimp only at hSw); go_simp <;> with_reducible rfl)
          try simp only [Act.put, List.setIfInBounds_toArray, List.set_cons_zero, List.set_cons_succ]
          refine wpAnyH_take (i := 23) (oi := { dst := some 63, op := Op.move (Operand.tmp 62), type := 4, pos := "law.go:62", after := #[{ on := 22, ground := Ground.data }, { on := 20, ground := Ground.chain }, { on := 20, ground := Ground.guard }], guard := some (20, false) }) (v := ?vo23) rfl (by kernel_rfl) (by kernel_rfl) (by kernel_rfl) (fun _ _ _ h => h) (Or.inl ⟨by rfl, ?yo23⟩) (by assumption) ?ro23
          case yo23 => (intro w hSw; (try dsimp only at hSw); go_simp <;> with_reducible rfl)
          try simp only [Act.put, List.setIfInBounds_toArray, List.set_cons_zero, List.set_cons_succ]
          refine wpAnyH_take (i := 24) (oi := { dst := some 64, op := Op.move (Operand.tmp 9), type := 9, pos := "law.go:62", after := #[{ on := 23, ground := Ground.guard }], guard := some (23, true) }) (v := undef) rfl (by kernel_rfl) (by kernel_rfl) (by kernel_rfl) (fun _ _ _ h => h) (Or.inr ⟨by rfl, rfl⟩) (by assumption) ?_
          try simp only [Act.put, List.setIfInBounds_toArray, List.set_cons_zero, List.set_cons_succ]
          refine wpAnyH_take (i := 25) (oi := { dst := some 65, op := Op.binOp BinOp.neq 9 (Operand.tmp 64) (Operand.const (Value.string { data := #[] })) 9, type := 4, pos := "law.go:62", after := #[{ on := 24, ground := Ground.data }, { on := 23, ground := Ground.guard }], guard := some (23, true) }) (v := undef) rfl (by kernel_rfl) (by kernel_rfl) (by kernel_rfl) (fun _ _ _ h => h) (Or.inr ⟨by rfl, rfl⟩) (by assumption) ?_
          try simp only [Act.put, List.setIfInBounds_toArray, List.set_cons_zero, List.set_cons_succ]
          refine wpAnyH_take (i := 26) (oi := { dst := some 66, op := Op.pick (Operand.tmp 63) (Operand.tmp 65) (Operand.const (Value.bool false)), type := 4, pos := "law.go:62", after := #[{ on := 23, ground := Ground.data }, { on := 25, ground := Ground.data }, { on := 20, ground := Ground.guard }], guard := some (20, false) }) (v := ?vo26) rfl (by kernel_rfl) (by kernel_rfl) (by kernel_rfl) (fun _ _ _ h => h) (Or.inl ⟨by rfl, ?yo26⟩) (by assumption) ?ro26
          case yo26 => (intro w hSw; (try dsimp only at hSw); go_simp <;> with_reducible rfl)
          try simp only [Act.put, List.setIfInBounds_toArray, List.set_cons_zero, List.set_cons_succ]
          refine wpAnyH_take (i := 27) (oi := { dst := some 67, op := Op.pick (Operand.tmp 60) (Operand.const (Value.bool true)) (Operand.tmp 66), type := 4, pos := "law.go:62", after := #[{ on := 20, ground := Ground.data }, { on := 26, ground := Ground.data }], guard := none }) (v := ?vo27) rfl (by kernel_rfl) (by kernel_rfl) (by kernel_rfl) (fun _ _ _ h => h) (Or.inl ⟨by rfl, ?yo27⟩) (by assumption) ?ro27
          case yo27 => (intro w hSw; (try dsimp only at hSw); go_simp <;> with_reducible rfl)
          try simp only [Act.put, List.setIfInBounds_toArray, List.set_cons_zero, List.set_cons_succ]
          refine wpAnyH_done (by kernel_rfl) ?_ _
          have bb8 : Below w5.heap.size w5 w8 := bb6.trans (h8.mono (by omega))
          clear h8 h8' hHeld c6 c8 k1 k3
          go_wp2_with fail
          go_roundw
          case rel => exact ⟨i + 1, by simp, by omega, bb8⟩
          case measure =>
            simp [intOf]
            omega
        · have k1 := dec_at Htab.out x (by omega) form _ _ e2 e1
          clear e1 e2
          go_wp2_with fail
          refine (k1 _ hbw).mono ?_
          rintro e w6 ⟨rfl, h6⟩
          have c6 := (h6.cell (p := ⟨g, i, none⟩) (by show g < _; omega)).trans hcell
          have b6 := below_tr hbw h6
          have bb6 := hb.trans (h6.mono hsr)
          clear hcell
          go_wp2_with fail
          go_quiet (fail)
          go_wp2_with fail
          go_roundw
          case rel => exact ⟨i + 1, by simp, by omega, below_drewN bb6 _⟩
          case measure =>
            simp [intOf]
            omega
      · have hp' : ¬ (i : Int) < 3 := by omega
        go_wp2_with fail
        go_ret
        exact ⟨rfl, hb5.trans (hb.mono hb5.size)⟩
  · have ha' : (raw.size : Int) > 300 := by omega
    go_wp2_with fail
    go_ret
    exact ⟨rfl, h1⟩

end Go.Proofs.YtfmkkalidcjilaaDoor
