import Derived.Test.YtanpplgmdemlaaaGreatDoorVM
import Derived.Deep.RegionHeld3
namespace Go.Proofs.YtanpplgmdemlaaaGreatDoor
open Go.RowKit
set_option linter.unusedVariables false
set_option linter.unusedSimpArgs false

/-- The results of the moves so far, as ref4 keeps them: what is known and what came out. -/
def OneSt (w : World) (R : Nat) (lv ov : Value) (ks js : List Kd) (Q : Nat → Prop) : Prop :=
  R < w.heap.size ∧ w.cell? ⟨R, 0, none⟩ = some lv ∧ w.cell? ⟨R, 1, none⟩ = some ov ∧ SlT w lv ks ∧ SlT w ov js ∧ (∀ k ∈ ks, k.Ok w Q ∧ may k.a k.l = true) ∧ (∀ k ∈ js, k.Ok w Q ∧ may k.a k.l = true) ∧ ∀ b, Q b → b < w.heap.size

def OneEnd4 (w : World) (us rs : List (Nd × Fo)) (m : Mv) (Q : Nat → Prop) (e : Ending) (w' : World) : Prop :=
  Below w.heap.size w w' ∧ ((∃ z, rawP us rs m = .error z ∧ z ≠ 0 ∧ e = .returned (.tuple #[zeroT, .int .i64 z])) ∨ ∃ k : Kd, rawP us rs m = .ok (k.a, k.l) ∧ e = .returned (.tuple #[k.val, .int .i64 0]) ∧ k.Ok w' (fun b => Q b ∨ (w.heap.size ≤ b ∧ b < w'.heap.size)))

theorem OneSt.below {w w' : World} {R : Nat} {lv ov : Value} {ks js : List Kd} {Q : Nat → Prop} (h : OneSt w R lv ov ks js Q) (hb : Below w.heap.size w w') : OneSt w' R lv ov ks js Q := by
  obtain ⟨h0, h1, h2, h3, h4, h5, h6, h7⟩ := h
  exact ⟨Nat.lt_of_lt_of_le h0 hb.size, by rw [hb.cell h0]; exact h1, by rw [hb.cell h0]; exact h2, h3.below hb, h4.below hb, fun k hk => ⟨(h5 k hk).1.keep (fun b hb => hb) (fun b o hq => hb.cell (by simpa using h7 b hq)), (h5 k hk).2⟩, fun k hk => ⟨(h6 k hk).1.keep (fun b hb => hb) (fun b o hq => hb.cell (by simpa using h7 b hq)), (h6 k hk).2⟩, fun b hq => Nat.lt_of_lt_of_le (h7 b hq) hb.size⟩

set_option maxRecDepth 20000 in
set_option maxHeartbeats 1000000 in
theorem at_in (w : World) (R : Nat) (lv ov : Value) (ks js : List Kd) (Q : Nat → Prop) (n : Int) (h : OneSt w R lv ov ks js Q) (hn : inR js.length n) (hl : js.length ≤ 2000) :
    Calls Tryz.prog 66 #[.pointer (some ⟨R, 0, none⟩), .int .i64 n] w fun e w' => e = .returned (.tuple #[(js.getD n.toNat kd0).val, .bool true]) ∧ Below w.heap.size w w' := by
  obtain ⟨h0, h1, h2, h3, h4, h5, h6, h7⟩ := h
  obtain ⟨A, c, rfl, hA⟩ := h4.len
  obtain ⟨n0, n1⟩ := hn
  obtain ⟨g, rfl, hrow⟩ : ∃ g, A = some ⟨g, 0, none⟩ ∧ RowT w g js := by rcases hA with h | h; omega; exact h
  obtain ⟨m, rfl⟩ : ∃ m : Nat, n = (m : Int) := ⟨n.toNat, by omega⟩
  obtain ⟨c0, c1, c2, c3⟩ := hrow.at m (by omega)
  have hg := hrow.1
  simp only [Int.toNat_natCast]
  generalize js.getD m kd0 = k at *
  clear h1 h3 h4 h5 h6 h7 hA hrow
  go_enter Tryz.func66, Tryz.ntmps66
  go_wp2_with fail
  refine bodyPost_ret (v := .tuple #[k.val, .bool true]) (by simp [results, Tryz.results66, go_sem, Kd.val]) rfl ⟨rfl, (by repeat (first | exact Below.refl _ _ | assumption | refine below_drewN ?_ _ | refine Below.drew ?_ | refine Below.alloc ?_ (by simp <;> omega) _ | refine Below.setCell ?_ (by simp <;> omega) _))⟩

set_option maxRecDepth 20000 in
set_option maxHeartbeats 1000000 in
theorem at_out (w : World) (R : Nat) (lv ov : Value) (ks js : List Kd) (Q : Nat → Prop) (n : Int) (h : OneSt w R lv ov ks js Q) (hn : ¬ inR js.length n) (hl : js.length ≤ 2000) :
    Calls Tryz.prog 66 #[.pointer (some ⟨R, 0, none⟩), .int .i64 n] w fun e w' => e = .returned (.tuple #[zeroT, .bool false]) ∧ Below w.heap.size w w' := by
  obtain ⟨h0, h1, h2, h3, h4, h5, h6, h7⟩ := h
  obtain ⟨A, c, rfl, hA⟩ := h4.len
  have hn' : n < 0 ∨ (js.length : Int) ≤ n := by unfold inR at hn; omega
  clear h1 h3 h4 h5 h6 h7 hA hn
  rcases hn' with hn | hn
  · go_enter Tryz.func66, Tryz.ntmps66
    go_wp2_with fail
    refine bodyPost_ret (v := .tuple #[zeroT, .bool false]) (by simp [results, Tryz.results66, go_sem]) rfl ⟨rfl, (by repeat (first | exact Below.refl _ _ | assumption | refine below_drewN ?_ _ | refine Below.drew ?_ | refine Below.alloc ?_ (by simp <;> omega) _ | refine Below.setCell ?_ (by simp <;> omega) _))⟩
  · have hn0 : ¬ n < 0 := by omega
    go_enter Tryz.func66, Tryz.ntmps66
    go_wp2_with fail
    refine bodyPost_ret (v := .tuple #[zeroT, .bool false]) (by simp [results, Tryz.results66, go_sem]) rfl ⟨rfl, (by repeat (first | exact Below.refl _ _ | assumption | refine below_drewN ?_ _ | refine Below.drew ?_ | refine Below.alloc ?_ (by simp <;> omega) _ | refine Below.setCell ?_ (by simp <;> omega) _))⟩

end Go.Proofs.YtanpplgmdemlaaaGreatDoor

namespace Go.Proofs.YtanpplgmdemlaaaGreatDoor
open Go.RowKit
set_option linter.unusedVariables false
set_option linter.unusedSimpArgs false

theorem at_any (w : World) (R : Nat) (lv ov : Value) (ks js : List Kd) (Q : Nat → Prop) (n : Int) (h : OneSt w R lv ov ks js Q) (hl : js.length ≤ 2000) :
    Calls Tryz.prog 66 #[.pointer (some ⟨R, 0, none⟩), .int .i64 n] w fun e w' => (∃ (k : Kd) (b : Bool), e = .returned (.tuple #[.agg #[.int .i64 k.a.kind, .int .i64 k.a.n, .string k.a.s, .slice k.A (flen k.l) k.cap], .bool b]) ∧ (b = true ↔ inR js.length n) ∧ (b = true → k = js.getD n.toNat kd0)) ∧ Below w.heap.size w w' := by
  by_cases hn : inR js.length n
  · exact (at_in w R lv ov ks js Q n h hn hl).mono fun e w' ⟨he, hb⟩ => ⟨⟨_, true, he, by simp [hn], fun _ => rfl⟩, hb⟩
  · exact (at_out w R lv ov ks js Q n h hn hl).mono fun e w' ⟨he, hb⟩ => ⟨⟨⟨0, 0, ⟨0, 0, ⟨#[]⟩⟩, .nil, none, 0, 0, 0⟩, false, he, by simp [hn], fun h => by cases h⟩, hb⟩

theorem row1 {w' : World} {S : Nat → Prop} {g : Nat} {k : Kd} (hg : S g) (hk : k.Ok w' S) (c0 : w'.cell? ⟨g, 0, none⟩ = some (.int .i64 k.a.kind)) (c1 : w'.cell? ⟨g, 1, none⟩ = some (.int .i64 k.a.n)) (c2 : w'.cell? ⟨g, 2, none⟩ = some (.string k.a.s)) (c3 : w'.cell? ⟨g, 3, none⟩ = some (.slice k.A (flen k.l) k.cap)) :
    RepG w' S (.node 0 0 k.a k.l .nil) g 0 :=
  ⟨hg, hk.1, c0, c1, c2, ⟨k.A, k.cap, k.b, k.o, c3, hk.2.1, hk.2.2.1, hk.2.2.2⟩, trivial⟩

theorem row2 {w' : World} {S : Nat → Prop} {g : Nat} {k j : Kd} (hg : S g) (hk : k.Ok w' S) (hj : j.Ok w' S) (c0 : w'.cell? ⟨g, 0, none⟩ = some (.int .i64 k.a.kind)) (c1 : w'.cell? ⟨g, 1, none⟩ = some (.int .i64 k.a.n)) (c2 : w'.cell? ⟨g, 2, none⟩ = some (.string k.a.s)) (c3 : w'.cell? ⟨g, 3, none⟩ = some (.slice k.A (flen k.l) k.cap))
    (d0 : w'.cell? ⟨g, 4, none⟩ = some (.int .i64 j.a.kind)) (d1 : w'.cell? ⟨g, 5, none⟩ = some (.int .i64 j.a.n)) (d2 : w'.cell? ⟨g, 6, none⟩ = some (.string j.a.s)) (d3 : w'.cell? ⟨g, 7, none⟩ = some (.slice j.A (flen j.l) j.cap)) :
    RepG w' S (.node 0 0 k.a k.l (.node 0 0 j.a j.l .nil)) g 0 :=
  ⟨hg, hk.1, c0, c1, c2, ⟨k.A, k.cap, k.b, k.o, c3, hk.2.1, hk.2.2.1, hk.2.2.2⟩, hg, hj.1, d0, d1, d2, ⟨j.A, j.cap, j.b, j.o, d3, hj.2.1, hj.2.2.1, hj.2.2.2⟩, trivial⟩

theorem OneEnd4.of {w w' : World} {us rs : List (Nd × Fo)} {m : Mv} {Q : Nat → Prop} {k : Kd} (hb : Below w.heap.size w w') (hr : rawP us rs m = .ok (k.a, k.l)) (hk : Below w.heap.size w w' → k.Ok w' (fun b => Q b ∨ (w.heap.size ≤ b ∧ b < w'.heap.size))) :
    OneEnd4 w us rs m Q (.returned (.tuple #[.agg #[.int .i64 k.a.kind, .int .i64 k.a.n, .string k.a.s, .slice k.A (flen k.l) k.cap], .int .i64 0])) w' := ⟨hb, .inr ⟨k, hr, rfl, hk hb⟩⟩

theorem OneSt.known {w w' : World} {R : Nat} {lv ov : Value} {ks js : List Kd} {Q : Nat → Prop} (h : OneSt w R lv ov ks js Q) (hb : Below w.heap.size w w') {k : Kd} (hk : k.Ok w Q) : k.Ok w' (fun b => Q b ∨ (w.heap.size ≤ b ∧ b < w'.heap.size)) :=
  hk.keep (fun b hb => .inl hb) (fun b o hq => hb.cell (by simpa using h.2.2.2.2.2.2.2 b hq))

theorem OneSt.out {w : World} {R : Nat} {lv ov : Value} {ks js : List Kd} {Q : Nat → Prop} (h : OneSt w R lv ov ks js Q) {n : Int} (hn : inR js.length n) : (js.getD n.toNat kd0).Ok w Q ∧ may (js.getD n.toNat kd0).a (js.getD n.toNat kd0).l = true :=
  h.2.2.2.2.2.2.1 _ (by have h1 := hn.1; have h2 := hn.2; have : n.toNat < js.length := by omega
                        simp [List.getD, List.getElem?_eq_getElem this])

set_option maxRecDepth 20000 in
set_option maxHeartbeats 2000000 in
theorem one_bad (w : World) (R : Nat) (ks js : List Kd) (Q : Nat → Prop) (k x y : Int) (s : ByteArray) (hk : k < 1 ∨ 10 < k) (hs : s.size ≤ maxLen) :
    Calls Tryz.prog 50 #[.pointer (some ⟨R, 0, none⟩), .agg #[.int .i64 k, .int .i64 x, .int .i64 y, .string s]] w fun e w' => OneEnd4 w (tms ks) (tms js) ⟨k, x, y, s⟩ Q e w' := by
  have HR : Hid (rawP (tms ks) (tms js) ⟨k, x, y, s⟩ = .error 2) := by
    show rawP _ _ _ = _
    unfold rawP
    simp only []
    rw [if_neg (by omega), if_neg (by omega), if_neg (by omega), if_neg (by omega), if_neg (by omega), if_neg (by omega), if_neg (by omega)]
  rcases hk with hk | hk
  · go_enter Tryz.func50, Tryz.ntmps50
    go_wp2_with fail
    refine bodyPost_ret (v := .tuple #[zeroT, .int .i64 2]) (by simp [results, Tryz.results50, go_sem]) rfl ?_
    exact ⟨(by repeat (first | exact Below.refl _ _ | assumption | refine below_drewN ?_ _ | refine Below.drew ?_ | refine Below.alloc ?_ (by simp <;> omega) _ | refine Below.setCell ?_ (by simp <;> omega) _)), .inl ⟨2, HR.out, by decide, rfl⟩⟩
  · have hk1 : ¬ k < 1 := by omega
    go_enter Tryz.func50, Tryz.ntmps50
    go_wp2_with fail
    refine bodyPost_ret (v := .tuple #[zeroT, .int .i64 2]) (by simp [results, Tryz.results50, go_sem]) rfl ?_
    exact ⟨(by repeat (first | exact Below.refl _ _ | assumption | refine below_drewN ?_ _ | refine Below.drew ?_ | refine Below.alloc ?_ (by simp <;> omega) _ | refine Below.setCell ?_ (by simp <;> omega) _)), .inl ⟨2, HR.out, by decide, rfl⟩⟩

set_option maxRecDepth 20000 in
set_option maxHeartbeats 2000000 in
theorem one_1 (w : World) (R : Nat) (lv ov : Value) (ks js : List Kd) (Q : Nat → Prop) (x y : Int) (s : ByteArray) (h : OneSt w R lv ov ks js Q) (hl : ks.length ≤ 2000) (hj : js.length ≤ 2000) (hs : s.size ≤ maxLen) :
    Calls Tryz.prog 50 #[.pointer (some ⟨R, 0, none⟩), .agg #[.int .i64 1, .int .i64 x, .int .i64 y, .string s]] w fun e w' => OneEnd4 w (tms ks) (tms js) ⟨1, x, y, s⟩ Q e w' := by
  have H : Hid (OneSt w R lv ov ks js Q) := h
  obtain ⟨h0, h1, h2, h3, h4, h5, h6, h7⟩ := h
  obtain ⟨A, c, rfl, hA⟩ := h3.len
  by_cases hx : inR ks.length x
  · obtain ⟨n0, n1⟩ := hx
    obtain ⟨g, rfl, hrow⟩ : ∃ g, A = some ⟨g, 0, none⟩ ∧ RowT w g ks := by rcases hA with h | h; omega; exact h
    obtain ⟨m, rfl⟩ : ∃ m : Nat, x = (m : Int) := ⟨x.toNat, by omega⟩
    obtain ⟨c0, c1, c2, c3⟩ := hrow.at m (by omega)
    have hg := hrow.1
    have HR : Hid (rawP (tms ks) (tms js) ⟨1, (m : Int), y, s⟩ = .ok ((ks.getD m kd0).a, (ks.getD m kd0).l)) := by
      show rawP _ _ _ = _
      unfold rawP
      rw [if_pos rfl, show (⟨1, (m : Int), y, s⟩ : Mv).a = (m : Int) from rfl, atL_in ⟨n0, n1⟩]; rfl
    have HK : Hid ((ks.getD m kd0).Ok w Q) := (h5 _ (by have : m < ks.length := by omega
                                                        simp [List.getD, List.getElem?_eq_getElem this])).1
    generalize ks.getD m kd0 = k at *
    clear h3 h4 h5 h6 h7 hA hrow h2
    go_enter Tryz.func50, Tryz.ntmps50
    go_wp2_with fail
    go_quiet (fail)
    go_wp2_with fail
    go_region
    all_goals go_wp2_with fail
    all_goals (refine bodyPost_ret (v := .tuple #[k.val, .int .i64 0]) (by simp [results, Tryz.results50, go_sem, Kd.val]) rfl ?_)
    all_goals
      refine OneEnd4.of (w := w) (k := k) ?_ HR.out ?_
      · exact (by repeat (first | exact Below.refl _ _ | assumption | refine below_drewN ?_ _ | refine Below.drew ?_ | refine Below.alloc ?_ (by simp <;> omega) _ | refine Below.setCell ?_ (by simp <;> omega) _))
      · intro hb; exact H.out.known hb HK.out
  · have HR : Hid (rawP (tms ks) (tms js) ⟨1, x, y, s⟩ = .error 8) := by
      show rawP _ _ _ = _
      unfold rawP
      rw [if_pos rfl, atL_out hx]; rfl
    have hx' : x < 0 ∨ (ks.length : Int) ≤ x := by unfold inR at hx; omega
    clear h3 h4 h5 h6 h7 hA h2 hx
    rcases hx' with hn | hn
    · go_enter Tryz.func50, Tryz.ntmps50
      go_wp2_with fail
      go_quiet (fail)
      go_wp2_with fail
      refine bodyPost_ret (v := .tuple #[zeroT, .int .i64 8]) (by simp [results, Tryz.results50, go_sem]) rfl ?_
      exact ⟨(by repeat (first | exact Below.refl _ _ | assumption | refine below_drewN ?_ _ | refine Below.drew ?_ | refine Below.alloc ?_ (by simp <;> omega) _ | refine Below.setCell ?_ (by simp <;> omega) _)), .inl ⟨8, HR.out, by decide, rfl⟩⟩
    · have hn0 : ¬ x < 0 := by omega
      go_enter Tryz.func50, Tryz.ntmps50
      go_wp2_with fail
      go_quiet (fail)
      go_wp2_with fail
      refine bodyPost_ret (v := .tuple #[zeroT, .int .i64 8]) (by simp [results, Tryz.results50, go_sem]) rfl ?_
      exact ⟨(by repeat (first | exact Below.refl _ _ | assumption | refine below_drewN ?_ _ | refine Below.drew ?_ | refine Below.alloc ?_ (by simp <;> omega) _ | refine Below.setCell ?_ (by simp <;> omega) _)), .inl ⟨8, HR.out, by decide, rfl⟩⟩

end Go.Proofs.YtanpplgmdemlaaaGreatDoor
