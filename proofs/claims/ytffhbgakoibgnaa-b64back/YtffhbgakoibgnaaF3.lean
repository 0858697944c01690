import Derived.Test.YtffhbgakoibgnaaF2
namespace Go.Proofs.Ytffhbgakoibgnaa
open Go.RowKit
set_option linter.unusedVariables false
set_option linter.unusedSimpArgs false

theorem OwnB.byAt {w : World} {B : Nat} {v : Value} {xs : List UInt8} (h : OwnB w B v xs) : ∃ A cap, v = .slice A xs.length cap ∧ ByAt w w.heap.size A xs ∧ xs.length ≤ cap ∧ cap ≤ maxLen := by
  obtain ⟨A, cap, rfl, hA, h1, h2⟩ := h.value
  refine ⟨A, cap, rfl, ?_, h1, h2⟩
  rcases hA with h0 | ⟨g, rfl, _, hg⟩
  · exact .inl (List.eq_nil_of_length_eq_zero h0)
  · refine .inr ⟨g, 0, rfl, hg, fun i hi => ?_⟩
    have := World.ownsRow.cellAt h i (by omega)
    rw [Nat.zero_add, this]
    simp [Lib.byteCells, List.getD, List.getElem?_eq_getElem hi]

theorem slice_full (A : Option Addr) (n cap : Nat) (h : n ≤ cap) (W : World) : (Instr.slice 22 (.slice A n cap) none (some (.int .i64 (n : Int))) (some (.int .i64 (n : Int)))).run Try.prog W = .ok (.slice A n n) W := by
  rw [run_slice_hm (P := Try.prog) W 22 A n cap (by rw [show Try.prog.elem 22 = 5 from by kernel_rfl]; exact Try.underlying22) _ _ _ _ (by omega) (by omega) (by omega)]
  rw [show (sizeOf (Try.prog.elem 22)).run Try.prog W = .ok 1 W from by rw [show Try.prog.elem 22 = 5 from by kernel_rfl]; kernel_rfl]
  cases A <;> simp [Result.andThen, sliced, Addr.add]

theorem slice_to (A : Option Addr) (n cap m : Nat) (h : m ≤ cap) (W : World) : (Instr.slice 22 (.slice A n cap) none (some (.int .i64 (m : Int))) none).run Try.prog W = .ok (.slice A m cap) W := by
  rw [run_slice_h (P := Try.prog) W 22 A n cap (by rw [show Try.prog.elem 22 = 5 from by kernel_rfl]; exact Try.underlying22) _ _ (by omega) (by omega)]
  rw [show (sizeOf (Try.prog.elem 22)).run Try.prog W = .ok 1 W from by rw [show Try.prog.elem 22 = 5 from by kernel_rfl]; kernel_rfl]
  cases A <;> simp [Result.andThen, sliced, Addr.add]

theorem slice_from (A : Option Addr) (n cap k : Nat) (h : k ≤ n) (W : World) : (Instr.slice 22 (.slice A n cap) (some (.int .i64 (k : Int))) none none).run Try.prog W = .ok (.slice (if cap = k then A else A.map (·.add k)) (n - k) (cap - k)) W := by
  rw [run_slice_l (P := Try.prog) W 22 A n cap (by rw [show Try.prog.elem 22 = 5 from by kernel_rfl]; exact Try.underlying22) _ _ (by omega) (by omega)]
  rw [show (sizeOf (Try.prog.elem 22)).run Try.prog W = .ok 1 W from by rw [show Try.prog.elem 22 = 5 from by kernel_rfl]; kernel_rfl]
  simp [Result.andThen, sliced]

section
variable {P : Program} (w : World)

/-- 'append(s, x...)' onto a row that is full, whosever it is: a new one. -/
theorem run_append_full (t ty e : TypeId) (i : TypeInfo) (z : Value) (ht : P.underlying t = some (.slice e)) (hi : P.info? e = some i) (hz : i.zero = some z) (hsize : i.size = 1) (hby : i.bytes = 1) (hzs : z.cells.size = 1)
    (b : Addr) (n : Nat) (olds : List Value) (hlo : olds.length = n) (holds : ∀ j v, olds[j]? = some v → w.cell? (b.add j) = some v)
    (a : Addr) (m c : Nat) (news : List Value) (hl : news.length = m) (hnews : ∀ j v, news[j]? = some v → w.cell? (a.add j) = some v) (hm : 0 < m) (h63 : n + m ≤ maxLen) (hbytes : n + m ≤ 140737488355328) (B : Nat) (hB : B ≤ w.heap.size) :
    ∃ v' w', (Builtin.append_ #[t, t] ty #[.slice (some b) n n, .slice (some a) m c]).run P w = .ok v' w' ∧ w'.ownsRow B e 1 v' (n + m) (olds ++ news) ∧ Below w.heap.size w w' := by
  have hr := run_append_grow (P := P) w t ty e i z ht hi hz b n n olds (by rw [hsize]; omega) holds a m c news (by rw [hsize]; omega) hnews (by omega) (by simp only [maxLen] at h63; omega) (growslice_fits (by omega) (by rw [hby]; omega))
  have hge := grownCap_ge w (n + m) n e
  have hcm : grownCap w (n + m) n e ≤ maxLen := grownCap_le_maxLen w (n + m) n e h63
  refine ⟨_, _, hr, ⟨by simp [hlo, hl], .inr ⟨w.heap.size, _, _, rfl, hB, heap_alloc_new w.drew _, hge, hcm, ?_, ?_⟩⟩, ((Below.refl _ w).drew).alloc (by simp) _⟩
  · simp only [Array.size_append, List.size_toArray, size_zeroCells, hzs, hlo, hl]
    omega
  · simp only [Array.toList_append, List.append_assoc]
    rw [← List.append_assoc, show (n + m) * 1 = (olds ++ news).length from by simp [hlo, hl]]
    exact List.take_left

theorem wpList_append_full {ops : Array Oper} {rest : List Oper} {o : Oper} {a : Act} {Q : Exit → Act → World → Prop} (hgd : o.guard = none) (s x : Operand) (t : TypeId)
    (ho : o.op = .call { callee := .builtin .append, args := #[s, x], argTypes := #[t, t] })
    (e : TypeId) (i : TypeInfo) (z : Value) (ht : P.underlying t = some (.slice e)) (hi : P.info? e = some i) (hz : i.zero = some z) (hsize : i.size = 1) (hby : i.bytes = 1) (hzs : z.cells.size = 1)
    (b : Addr) (n : Nat) (olds : List Value) (hs : a.eval s = .slice (some b) n n) (hlo : olds.length = n) (holds : ∀ j v, olds[j]? = some v → w.cell? (b.add j) = some v)
    (ad : Addr) (m c : Nat) (news : List Value) (hx : a.eval x = .slice (some ad) m c) (hl : news.length = m) (hnews : ∀ j v, news[j]? = some v → w.cell? (ad.add j) = some v) (hm : 0 < m) (h63 : n + m ≤ maxLen) (hbytes : n + m ≤ 140737488355328) (B : Nat) (hB : B ≤ w.heap.size)
    (h : ∀ v' w', w'.ownsRow B e 1 v' (n + m) (olds ++ news) → Below w.heap.size w w' → wpList P ops Q rest (a.put o.dst v') w') : wpList P ops Q (o :: rest) a w := by
  refine wpList_plain hgd fun K hK => ?_
  obtain ⟨v', w', hr, h2, h3⟩ := run_append_full (P := P) w t o.type e i z ht hi hz hsize hby hzs b n olds hlo holds ad m c news hl hnews hm h63 hbytes B hB
  unfold Oper.wp execOp
  simp only [ho, resolve, invoke, builtin, Sem.run_bind, Sem.run_pure, Result.andThen_ok, List.map_toArray, List.map_cons, List.map_nil, hs, hx, hr]
  exact hK _ _ (h v' w' h2 h3)
end

def sLen : Value → Nat
  | .slice _ n _ => n
  | _ => 0

/-- What filled leaves: the bytes with so many behind them. -/
def BFill (w : World) (A : Option Addr) (xs : List UInt8) (z : UInt8) (k : Nat) (wv : Value) (wr : World) : Prop :=
  (k = 0 ∧ wv = .slice A xs.length xs.length ∧ wr = w) ∨ (OwnB wr w.heap.size wv (xs ++ List.replicate k z) ∧ Below w.heap.size w wr)

def BytesEnd (w : World) (xs : List UInt8) (e : Ending) (w' : World) : Prop :=
  ∃ A cap, e = .returned (.slice A xs.length cap) ∧ ByAt w' w'.heap.size A xs ∧ xs.length ≤ cap ∧ cap ≤ maxLen ∧ Below w.heap.size w w'

theorem BFill.form {w : World} {A : Option Addr} {xs : List UInt8} {z : UInt8} {k : Nat} {wv : Value} {wr : World} (h : BFill w A xs z k wv wr) : ∃ A2 cap2, wv = .slice A2 (xs.length + k) cap2 := by
  rcases h with ⟨rfl, rfl, rfl⟩ | ⟨h1, h2⟩
  · exact ⟨A, xs.length, rfl⟩
  · obtain ⟨A2, cap2, rfl, _⟩ := h1.value
    exact ⟨A2, cap2, by simp⟩

set_option maxHeartbeats 1000000 in
theorem bfilled_any (A : Option Addr) (xs : List UInt8) (cap : Nat) (sz : Nat) (hsz : sz = 3 ∨ sz = 4) (z : UInt8) (w : World) (hx : ByAt w w.heap.size A xs) (hc : xs.length ≤ cap) (hm : xs.length ≤ 1000000) :
    Calls Try.prog 13 #[.slice A xs.length cap, .int .i64 (sz : Int), .int .u8 (z.toNat : Int)] w fun e w' => BytesEnd w (padL sz z xs) e w' := by
  obtain ⟨i5, hi, hz0, hz1, hz2⟩ := info_has Try.infoByte
  have hsl := slice_full A xs.length cap hc
  have hmod : lack sz xs < sz := by rcases hsz with rfl | rfl <;> (unfold lack; omega)
  have hlen : xs.length + lack sz xs = (padL sz z xs).length := by simp [padL]
  have hpl : ∀ k, k ≤ lack sz xs → ((xs.length + k) % sz = 0 ↔ k = lack sz xs) := by
    intro k hk
    have h3 : 0 < sz := by rcases hsz with rfl | rfl <;> decide
    rcases hsz with rfl | rfl <;> (unfold lack at *; omega)
  go_enter Try.func13, Try.ntmps13
  go_wp2_with fail
  have Hx : Hid (ByAt w w.heap.size A xs) := hx
  have Hlen : Hid (xs.length + lack sz xs = (padL sz z xs).length) := hlen
  clear hx hsl hlen
  go_loopw [7] (fun wv wr => ∃ k : Nat, k ≤ lack sz xs ∧ BFill w A xs z k wv wr) (fun wv _ => xs.length + lack sz xs - sLen wv)
  case atStart => exact ⟨0, Nat.zero_le _, .inl ⟨rfl, rfl, rfl⟩⟩
  case round =>
    obtain ⟨k, hk, hrel⟩ := hrel
    have hpk := hpl k hk
    obtain ⟨A2, cap2, rfl⟩ := hrel.form
    have Hrel : Hid (BFill w A xs z k (.slice A2 (xs.length + k) cap2) wr) := hrel
    clear hrel
    have hsz0 : (sz : Int) ≠ 0 := by rcases hsz with rfl | rfl <;> decide
    have hsz1 : 1 ≤ (sz : Int) := by omega
    have hb : xs.length + k ≤ 1000003 := by omega
    generalize hm0 : xs.length + k = m at *
    have hmodk : (m : Int) % (sz : Int) = ((m % sz : Nat) : Int) := rfl
    have Hm0 : Hid (xs.length + k = m) := hm0
    generalize hq0 : m % sz = q at *
    clear hm0 hsz
    by_cases hp : q = 0
    · have hp' : ¬ (0 : Int) < (q : Int) := by omega
      have Hk : Hid (k = lack sz xs) := hpk.1 hp
      clear hp hq0 hpk
      go_wp2_with fail
      go_ret
      have e : m = (padL sz z xs).length := by rw [← Hlen.out, ← Hk.out, Hm0.out]
      rcases Hrel.out with ⟨h1, h2, h3⟩ | ⟨h1, h2⟩
      · injection h2 with e1 e2 e3
        subst e1 e2 e3 h3
        have e2 : padL sz z xs = xs := by unfold padL; rw [← Hk.out, h1]; simp
        rw [e2]
        exact ⟨_, _, rfl, Hx.out, Nat.le_refl _, by unfold maxLen; omega, Below.refl _ _⟩
      · have e2 : xs ++ List.replicate k z = padL sz z xs := by unfold padL; rw [Hk.out]
        rw [e2] at h1
        obtain ⟨A3, cap3, h3, h4, h5, h6⟩ := h1.byAt
        exact ⟨A3, cap3, by rw [h3]; rfl, h4, h5, h6, h2⟩
    · have hp' : (0 : Int) < (q : Int) := by omega
      have hk' : ¬ k = lack sz xs := fun h => hp (hpk.2 h)
      have hk1 : k + 1 ≤ lack sz xs := by omega
      clear hp hq0 hpk
      have hsub : ∀ A6 cap6, xs.length + lack sz xs - sLen (.slice A6 (m + 1) cap6) < xs.length + lack sz xs - sLen (.slice A2 m cap2) := fun A6 cap6 => by
        have := Hm0.out
        show xs.length + lack sz xs - (m + 1) < xs.length + lack sz xs - m
        omega
      have Hsub : Hid (∀ A6 cap6, xs.length + lack sz xs - sLen (.slice A6 (m + 1) cap6) < xs.length + lack sz xs - sLen (.slice A2 m cap2)) := hsub
      clear hsub hk'
      rcases Hrel.out with ⟨h1, h2, h3⟩ | ⟨h1, h2⟩
      · injection h2 with e1 e2 e3
        subst e1 e2 e3 h3
        obtain ⟨b, o, rfl, hb1, hcc⟩ : ∃ b o, A2 = some ⟨b, o, none⟩ ∧ b < wr.heap.size ∧ ∀ i, i < xs.length → wr.cell? ⟨b, o + i, none⟩ = some (.int .u8 ((xs.getD i 0).toNat : Int)) := by
          rcases Hx.out with h | h
          · subst h; simp [lack] at hk1
          · exact h
        have HC : Hid (∀ i, i < xs.length → wr.cell? ⟨b, o + i, none⟩ = some (.int .u8 ((xs.getD i 0).toNat : Int))) := hcc
        clear hcc
        go_wp2_with (at_builtin; refine wpList_append_full _ rfl _ _ 22 rfl 5 i5 (.int .u8 0) Try.underlying22 hi hz0 hz1 hz2 rfl ⟨b, o, none⟩ xs.length (Lib.byteCells xs) rfl ?lo ?holds ⟨wr.heap.size, 0, none⟩ 1 1 [.int .u8 (z.toNat : Int)] rfl rfl ?news (by decide) ?c1 ?c2 wr.heap.size ?hB ?_)
        case lo => simp [Lib.byteCells]
        case holds =>
          intro j v hj
          obtain ⟨hj1, hj2⟩ := List.getElem?_eq_some_iff.1 hj
          have hj1 : j < xs.length := by simpa [Lib.byteCells] using hj1
          rw [show (⟨b, o, none⟩ : Addr).add j = ⟨b, o + j, none⟩ from by cases j <;> simp [Addr.add], World.cell?_of_block (Below.heap_alloc wr _ _ hb1), HC.out j hj1, ← hj2]
          simp [Lib.byteCells, List.getD, List.getElem?_eq_getElem hj1]
        case news => exact World.news_of_block (t := 5) (fr := (0, 0)) (heap_alloc_new wr _)
        case c1 => unfold maxLen; omega
        case c2 => omega
        case hB => simp
        intro v6 w6 hown6 hb6
        have O6 : OwnB w6 wr.heap.size v6 (xs ++ [z]) := append_end hown6 rfl rfl
        have HB6 : Hid (Below wr.heap.size wr w6) := ((Below.refl _ wr).alloc (Nat.le_refl _) _).trans (hb6.mono (by simp))
        clear hown6 hb6
        obtain ⟨A6, cap6, h6, _⟩ := O6.value
        have e6 : (xs ++ [z]).length = xs.length + 1 := by simp
        rw [e6] at h6
        subst h6
        have HO6 : Hid (OwnB w6 wr.heap.size (.slice A6 (xs.length + 1) cap6) (xs ++ [z])) := O6
        clear O6 e6
        go_wp2_with fail
        go_roundw
        case rel => exact ⟨k + 1, hk1, .inr ⟨by subst h1; exact HO6.out, HB6.out⟩⟩
        case measure => exact Hsub.out _ _
      · have hL : (xs ++ List.replicate k z).length = m := by rw [← Hm0.out]; simp
        have e1 : xs ++ List.replicate (k + 1) z = (xs ++ List.replicate k z) ++ [z] := by rw [List.replicate_succ']; simp
        have E1 : Hid (xs ++ List.replicate (k + 1) z = (xs ++ List.replicate k z) ++ [z]) := e1
        clear e1
        generalize xs ++ List.replicate k z = L at *
        have HO : Hid (OwnB wr w.heap.size (.slice A2 m cap2) L) := h1
        have HB : Hid (Below w.heap.size w wr) := h2
        clear h1
        subst hL
        have hsw := h2.size
        clear h2
        go_wp2_with (at_builtin; refine wpList_append_any _ rfl _ _ 22 rfl w.heap.size 5 i5 (.int .u8 0) 1 1 Try.underlying22 hi hz0 hz1 hz2 rfl (by decide) (.slice A2 L.length cap2) L.length (Lib.byteCells L) rfl ?own (some ⟨wr.heap.size, 0, none⟩) 1 1 [.int .u8 (z.toNat : Int)] rfl ?src ?c3 ?c4 ?c5 ?_)
        case own => exact HO.out.alloc _
        case src => exact .inr ⟨_, rfl, rfl, World.news_of_block (t := 5) (fr := (0, 0)) (heap_alloc_new wr _), by simp [Value.oneCell']⟩
        case c3 => unfold maxLen; omega
        case c4 => omega
        case c5 => simp; omega
        intro v6 w6 hown6 hgrow6 hat6
        have O6 : OwnB w6 w.heap.size v6 (L ++ [z]) := append_end hown6 rfl rfl
        have HB6 : Hid (Below w.heap.size w w6) := HB.out.trans (below_end HO.out hgrow6 (by simpa using hat6) hsw)
        clear hown6 hgrow6 hat6
        obtain ⟨A6, cap6, h6, _⟩ := O6.value
        have e6 : (L ++ [z]).length = L.length + 1 := by simp
        rw [e6] at h6
        subst h6
        have HO6 : Hid (OwnB w6 w.heap.size (.slice A6 (L.length + 1) cap6) (L ++ [z])) := O6
        clear O6 e6
        go_wp2_with fail
        go_roundw
        case rel => exact ⟨k + 1, hk1, .inr ⟨by rw [E1.out]; exact HO6.out, HB6.out⟩⟩
        case measure => exact Hsub.out _ _

end Go.Proofs.Ytffhbgakoibgnaa
