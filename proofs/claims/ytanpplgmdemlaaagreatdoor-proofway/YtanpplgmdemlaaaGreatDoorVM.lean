import Derived.Test.YtanpplgmdemlaaaGreatDoorV9
import Derived.Test.YtanpplgmdemlaaaGreatDoorW23
import Derived.Test.YtanpplgmdemlaaaGreatDoorKG
import Derived.Laws.OwnMore
namespace Go.Proofs.YtanpplgmdemlaaaGreatDoor
open Go.RowKit
set_option linter.unusedVariables false
set_option linter.unusedSimpArgs false

/-- What comes of moves, one behind the other. -/
def runS (us : List (Nd × Fo)) : List (Nd × Fo) → List Mv → Except Int (List (Nd × Fo))
  | rs, [] => .ok rs
  | rs, m :: r => match stepP us rs m with | .error e => .error e | .ok t => runS us (rs ++ [t]) r
def runP (us : List (Nd × Fo)) (ms : List Mv) : Except Int (List (Nd × Fo)) := if 1024 < ms.length then .error 7 else runS us [] ms

theorem runS_append (us : List (Nd × Fo)) : ∀ (rs : List (Nd × Fo)) (a b : List Mv), runS us rs (a ++ b) = (match runS us rs a with | .error e => .error e | .ok rs' => runS us rs' b)
  | rs, [], b => rfl
  | rs, m :: r, b => by
    rw [List.cons_append, runS, runS]
    cases stepP us rs m with
    | error e => rfl
    | ok t => exact runS_append us (rs ++ [t]) r b

def mv0 : Mv := ⟨0, 0, 0, ⟨#[]⟩⟩
/-- The moves lie in w below B. -/
def MvsAt (w : World) (B : Nat) (ms : List Mv) (A : Option Addr) : Prop :=
  ms = [] ∨ ∃ mb mo, A = some ⟨mb, mo, none⟩ ∧ mb < B ∧ ∀ i, i < ms.length → w.cell? ⟨mb, mo + i * 4, none⟩ = some (.int .i64 (ms.getD i mv0).kind) ∧ w.cell? ⟨mb, mo + i * 4 + 1, none⟩ = some (.int .i64 (ms.getD i mv0).a) ∧ w.cell? ⟨mb, mo + i * 4 + 2, none⟩ = some (.int .i64 (ms.getD i mv0).b) ∧ w.cell? ⟨mb, mo + i * 4 + 3, none⟩ = some (.string (ms.getD i mv0).s)

theorem RepVG.kd0 {w : World} {S : Nat → Prop} {a : Nd} {l : Fo} {v : Value} (h : RepVG w S a l v) : ∃ k : Kd, k.a = a ∧ k.l = l ∧ v = k.val ∧ k.Ok w S ∧ k.x = 0 ∧ k.y = 0 := by
  obtain ⟨hf, A, cap, b, o, hv, hn, hA, hl⟩ := h
  exact ⟨⟨0, 0, a, l, A, cap, b, o⟩, rfl, rfl, hv, ⟨hf, hn, hA, hl⟩, rfl, rfl⟩

/-- A row of one's own with one more, still one's own. -/
theorem terms_append {B : Nat} {w6 w7 w8 : World} {v v8 : Value} {ks : List Kd} {kd : Kd} (ht : TermsAt w6 B v ks) (hB : B ≤ w6.heap.size) (hb7 : Below w6.heap.size w6 w7) (hkd : kd.Ok w7 (fun b => w6.heap.size ≤ b ∧ b < w7.heap.size)) (hmk : may kd.a kd.l = true)
    (hown : w8.ownsRow B 27 4 v8 (ks.length + 1) (rowOf ks ++ kd.cells)) (hgrow : (w7.alloc (.cells #[.int .i64 kd.a.kind, .int .i64 kd.a.n, .string kd.a.s, .slice kd.A (flen kd.l) kd.cap] 27)).grownBy w8 v.ownBlock)
    (hat : v8.ownBlock = v.ownBlock ∨ v8.ownBlock = some (w7.heap.size + 1)) : TermsAt w8 B v8 (ks ++ [kd]) := by
  have hs := hgrow.size
  rw [World.heap_size_alloc'] at hs
  have hs7 := hb7.size
  have hc : ∀ b o, b < w7.heap.size → v.ownBlock ≠ some b → w8.cell? ⟨b, o, none⟩ = w7.cell? ⟨b, o, none⟩ := fun b o hb hv => by
    rw [World.cell?_of_block (w := w7.alloc _) (a := ⟨b, o, none⟩) (hgrow.block b (by rw [World.heap_size_alloc']; omega) (fun e => hv e.symm))]
    exact World.cell?_of_block (Below.heap_alloc _ _ _ hb)
  have hv8 : ∀ b, b < w7.heap.size → v.ownBlock ≠ some b → v8.ownBlock ≠ some b := fun b hb hv e => by
    rcases hat with h | h
    · exact hv (by rw [← h]; exact e)
    · rw [h] at e; injection e with e; omega
  refine ⟨by rw [List.length_append, rowOf_append]; simpa [rowOf] using hown, fun k hk => ?_⟩
  rcases List.mem_append.1 hk with hk | hk
  · refine ⟨(ht.2 k hk).1.keep (fun b hb => ⟨hb.1, by have := hb.2.1; omega, hv8 b (by have := hb.2.1; omega) hb.2.2⟩) (fun b o hb => (hc b o (by have := hb.2.1; omega) hb.2.2).trans (hb7.cell (by simpa using hb.2.1))), (ht.2 k hk).2⟩
  · simp only [List.mem_singleton] at hk
    subst hk
    have hno : ∀ b, w6.heap.size ≤ b → v.ownBlock ≠ some b := fun b hb e => by have := ht.1.lt b e; omega
    exact ⟨hkd.keep (fun b hb => ⟨by omega, by omega, hv8 b hb.2 (hno b hb.1)⟩) (fun b o hb => hc b o hb.2 (hno b hb.1)), hmk⟩

def RunEnd (w : World) (us : List (Nd × Fo)) (ms : List Mv) (e : Ending) (w' : World) : Prop :=
  Below w.heap.size w w' ∧ ((∃ z, runP us ms = .error z ∧ z ≠ 0 ∧ e = .returned (.tuple #[.slice none 0 0, .int .i64 z])) ∨ ∃ (js : List Kd) (v : Value), runP us ms = .ok (tms js) ∧ e = .returned (.tuple #[v, .int .i64 0]) ∧ TermsAt w' w.heap.size v js ∧ js.length = ms.length)

def RunRel (w : World) (us : List (Nd × Fo)) (ms : List Mv) (kv iv : Value) (wr : World) : Prop :=
  ∃ (n : Nat) (js : List Kd), iv = .int .i64 (n : Int) ∧ n ≤ ms.length ∧ js.length = n ∧ TermsAt wr w.heap.size kv js ∧ (∀ k ∈ js, k.x = 0 ∧ k.y = 0) ∧ Below w.heap.size w wr ∧ runS us [] (ms.take n) = .ok (tms js)

theorem TermsAt.len {w : World} {B : Nat} {v : Value} {ks : List Kd} (h : TermsAt w B v ks) : ∃ A c, v = .slice A ks.length c := by
  rcases h.1.2 with ⟨h1, h2⟩ | ⟨g, cap, cur, h1, _⟩
  · exact ⟨none, 0, by rw [h1, h2]⟩
  · exact ⟨_, cap, h1⟩

theorem run_take_err {us : List (Nd × Fo)} {ms : List Mv} {n : Nat} {rs : List (Nd × Fo)} {m : Mv} {z : Int} (hn : n < ms.length) (hm : ms.getD n mv0 = m) (h1 : runS us [] (ms.take n) = .ok rs) (h2 : stepP us rs m = .error z) : runS us [] ms = .error z := by
  have e : ms = ms.take n ++ (m :: ms.drop (n + 1)) := by
    rw [← hm, show ms.getD n mv0 = ms[n] from by simp [List.getD, List.getElem?_eq_getElem hn], ← List.drop_eq_getElem_cons hn, List.take_append_drop]
  rw [e, runS_append, h1]
  simp only [runS, h2]
theorem run_take_ok {us : List (Nd × Fo)} {ms : List Mv} {n : Nat} {rs : List (Nd × Fo)} {m : Mv} {t : Nd × Fo} (hn : n < ms.length) (hm : ms.getD n mv0 = m) (h1 : runS us [] (ms.take n) = .ok rs) (h2 : stepP us rs m = .ok t) : runS us [] (ms.take (n + 1)) = .ok (rs ++ [t]) := by
  have e : ms.take (n + 1) = ms.take n ++ [m] := by rw [List.take_succ_eq_append_getElem hn, ← hm]; simp [List.getD, List.getElem?_eq_getElem hn]
  rw [e, runS_append, h1]
  simp only [runS, h2]

set_option maxRecDepth 100000 in
set_option maxHeartbeats 4000000 in
theorem run_any (ks : List Kd) (lv : Value) (ms : List Mv) (MA : Option Addr) (mc B : Nat) (w : World) (h : SlT w lv ks) (hl : ks.length ≤ 2000) (hm : ∀ k ∈ ks, may k.a k.l = true) (hB : B ≤ w.heap.size) (hms : MvsAt w B ms MA) (hml : ms.length ≤ 9223372036854775807) (hs : ∀ m ∈ ms, m.s.size ≤ maxLen) :
    Calls Tryz.prog 11 #[lv, .slice MA ms.length mc] w fun e w' => RunEnd w (tms ks) ms e w' := by
  have HSL : Hid (SlT w lv ks) := h
  have HM : Hid (∀ k ∈ ks, may k.a k.l = true) := hm
  have HMS : Hid (MvsAt w B ms MA) := hms
  have HSS : Hid (∀ m ∈ ms, m.s.size ≤ maxLen) := hs
  clear h hm hms hs
  obtain ⟨i5, hi, hz0, hz1, hz2⟩ := info_get Tryz.infoTerm
  go_enter Tryz.func11, Tryz.ntmps11
  by_cases hbig : 1024 < ms.length
  · have hd : decide ((1024 : Int) < (ms.length : Int)) = true := by simp; omega
    have HE : Hid (runP (tms ks) ms = .error 7) := by show runP _ _ = _; unfold runP; rw [if_pos hbig]
    clear hbig
    go_wp2_with fail
    refine bodyPost_ret (v := .tuple #[.slice none 0 0, .int .i64 7]) (by simp [results, Tryz.results11]) rfl ?_
    exact ⟨Below.refl _ _, .inl ⟨7, HE.out, by decide, rfl⟩⟩
  · have hd : decide ((1024 : Int) < (ms.length : Int)) = false := by simp; omega
    have HRP : Hid (runP (tms ks) ms = runS (tms ks) [] ms) := by show runP _ _ = _; unfold runP; rw [if_neg hbig]
    go_wp2_with (at_make; refine wpList_make_own _ rfl _ _ 24 rfl w.heap.size 27 i5 (.agg #[.int .i64 0, .int .i64 0, .string ⟨#[]⟩, .slice none 0 0]) 4 Tryz.underlying24 hi hz0 hz1 _ _ _ ms.length rfl rfl (by omega) ?b2 ?b3 (Nat.le_refl _) ?_)
    case b2 => rw [hz2]; omega
    case b3 => unfold maxLen; omega
    intro w0 hown0 hgrow0
    have hbl0 : Below w.heap.size w w0 := Below.grown (Below.refl _ _) hgrow0 (Nat.le_refl _) (fun k hk => by cases hk)
    clear hgrow0
    go_wp2_with fail
    go_loopw [6, 19] (fun kv iv wr => RunRel w (tms ks) ms kv iv wr) (fun _ iv _ => ms.length - (intOf iv).toNat)
    case atStart => exact ⟨0, [], rfl, by omega, rfl, ⟨hown0, by simp⟩, by simp, hbl0, by simp [runS, tms]⟩
    case round =>
      obtain ⟨n, js, rfl, hn, hjn, hta, hxy, hbl, hrun⟩ := hrel
      have HTA : Hid (TermsAt wr w.heap.size u6 js) := hta
      have HXY : Hid (∀ k ∈ js, k.x = 0 ∧ k.y = 0) := hxy
      have HRUN : Hid (runS (tms ks) [] (ms.take n) = .ok (tms js)) := hrun
      have hsr := hbl.size
      have HJN : Hid (js.length = n) := hjn
      have hjl : js.length ≤ 1024 := by omega
      clear hown0 hbl0 hxy hrun hjn
      obtain ⟨KA, kc, rfl⟩ := hta.len
      clear hta
      by_cases hlt : n < ms.length
      · obtain ⟨mb, mo, rfl, hmb, hcm⟩ : ∃ mb mo, MA = some ⟨mb, mo, none⟩ ∧ mb < B ∧ ∀ i, i < ms.length → w.cell? ⟨mb, mo + i * 4, none⟩ = some (.int .i64 (ms.getD i mv0).kind) ∧ w.cell? ⟨mb, mo + i * 4 + 1, none⟩ = some (.int .i64 (ms.getD i mv0).a) ∧ w.cell? ⟨mb, mo + i * 4 + 2, none⟩ = some (.int .i64 (ms.getD i mv0).b) ∧ w.cell? ⟨mb, mo + i * 4 + 3, none⟩ = some (.string (ms.getD i mv0).s) := by
          rcases HMS.out with h | h
          · rw [h] at hlt; simp at hlt
          · exact h
        obtain ⟨c0, c1, c2, c3⟩ := hcm n hlt
        have hcl : ∀ j, wr.cell? ⟨mb, j, none⟩ = w.cell? ⟨mb, j, none⟩ := fun j => hbl.cell (by simp; omega)
        rw [← hcl] at c0 c1 c2 c3
        have hss := HSS.out (ms.getD n mv0) (by simp [List.getD, List.getElem?_eq_getElem hlt])
        generalize hm0 : ms.getD n mv0 = m at *
        have HM0 : Hid (ms.getD n mv0 = m) := hm0
        clear hcm hcl hm0
        have hni : (n : Int) < (ms.length : Int) := by omega
        have hn0 : (0 : Int) ≤ (n : Int) := by omega
        have hmw : mb < wr.heap.size := by omega
        have hal : Below wr.heap.size wr (wr.alloc (.cells #[.int .i64 m.kind, .int .i64 m.a, .int .i64 m.b, .string m.s] 39)) := Below.alloc (Below.refl _ _) (Nat.le_refl _) _
        go_wp2_with fail
        refine (result_any m ks js _ _ _ (HSL.out.below (hbl.trans (hal.mono hsr))) (HTA.out.sl.1.below hal) hl (by omega) HM.out HTA.out.sl.2 HXY.out hss).mono ?_
        rintro e w1 ⟨hb1, ⟨z, hst, hz, rfl⟩ | ⟨k, hst, rfl, hok, hmk⟩⟩
        · have HE : Hid (runP (tms ks) ms = .error z) := by show runP _ _ = _; rw [HRP.out]; exact run_take_err hlt HM0.out HRUN.out hst
          have hzne : (z != 0) = true := by simp [hz]
          have HZ : Hid (z ≠ 0) := hz
          have hb1w : Below w.heap.size w w1 := (hbl.trans (hal.mono hsr)).trans (hb1.mono (by simp; omega))
          clear hst hz
          go_wp2_with fail
          refine bodyPost_ret (v := .tuple #[.slice none 0 0, .int .i64 z]) (by simp [results, Tryz.results11]) rfl ?_
          exact ⟨Below.alloc hb1w hb1w.size _, .inl ⟨z, HE.out, HZ.out, rfl⟩⟩
        · have hb1r : Below wr.heap.size wr w1 := hal.trans (hb1.mono (by simp))
          have HRU : Hid (runS (tms ks) [] (ms.take (n + 1)) = .ok (tms js ++ [(k.a, k.l)])) := run_take_ok hlt HM0.out HRUN.out hst
          have HOK : Hid (k.Ok w1 (fun b => b < w1.heap.size) ∧ may k.a k.l = true) := ⟨hok, hmk⟩
          have hal1 : Below w1.heap.size w1 (w1.alloc (.cells #[.int .i64 k.a.kind, .int .i64 k.a.n, .string k.a.s, .slice k.A (flen k.l) k.cap] 27)) := Below.alloc (Below.refl _ _) (Nat.le_refl _) _
          clear hst hok hmk c0 c1 c2 c3
          go_wp2_with fail
          refine (pfresh_any k.a k.l _ (w1.heap.size + 1) _ (by have := Kd.rep (HOK.out.1.below hal1); rwa [World.heap_size_alloc'] at this) (by simp) (may_ar _ _ HOK.out.2).1 (may_ar _ _ HOK.out.2).2).mono ?_
          rintro e w2 ⟨u, rfl, ho2, hu⟩
          obtain ⟨kd, ka, kl, rfl, hkd, hx0, hy0⟩ := hu.kd0
          have hs1 := hb1r.size
          have hs2 := ho2.size
          simp only [World.heap_size_alloc'] at hs2
          have hb2 : Below wr.heap.size wr w2 := hb1r.trans ((hal1.trans (ho2.mono (by simp))).mono hs1)
          have hmkd : may kd.a kd.l = true := by rw [ka, kl]; exact HOK.out.2
          have HKD : Hid (kd.Ok w2 (fun b => wr.heap.size ≤ b ∧ b < w2.heap.size) ∧ may kd.a kd.l = true ∧ kd.x = 0 ∧ kd.y = 0 ∧ (kd.a, kd.l) = (k.a, k.l)) := ⟨hkd.keep (fun b hb => ⟨by have := hb.1; simp at this; omega, hb.2⟩) (fun _ _ _ => rfl), hmkd, hx0, hy0, by rw [ka, kl]⟩
          have hvl := HTA.out.1.lt
          have HVL : Hid (∀ q, (Value.slice KA js.length kc).ownBlock = some q → w.heap.size ≤ q ∧ q < wr.heap.size) := hvl
          clear hu ka kl hkd hx0 hy0 hmkd hvl
          go_wp2_with (at_builtin; refine wpList_append_any _ rfl _ _ 24 rfl w.heap.size 27 i5 (.agg #[.int .i64 0, .int .i64 0, .string ⟨#[]⟩, .slice none 0 0]) 4 56 Tryz.underlying24 hi hz0 hz1 hz2 rfl (by decide) (.slice KA js.length kc) js.length (rowOf js) rfl ?own (some ⟨w2.heap.size, 0, none⟩) 1 1 kd.cells rfl ?src ?c3 ?c4 ?c5 ?_)
          case own => exact (owns_below HTA.out.1 hb2).alloc _
          case src => exact .inr ⟨_, rfl, rfl, World.news_of_block (cs := #[.int .i64 kd.a.kind, .int .i64 kd.a.n, .string kd.a.s, .slice kd.A (flen kd.l) kd.cap]) (t := 27) (fr := (0, 0)) (heap_alloc_new w2 _), by simp [Kd.cells, Value.oneCell']⟩
          case c3 => unfold maxLen; omega
          case c4 => omega
          case c5 => simp; omega
          intro v8 w8 hown8 hgrow8 hat8
          have HT8 : Hid (TermsAt w8 w.heap.size v8 (js ++ [kd])) := terms_append HTA.out hsr hb2 HKD.out.1 HKD.out.2.1 hown8 hgrow8 (by rcases hat8 with h | h; exact .inl h; (right; simpa using h))
          have hb8 : Below w.heap.size w w8 := grown_belowT ((hbl.trans (hb2.mono hsr)).trans ((Below.alloc (Below.refl _ _) (Nat.le_refl _) _).mono (by omega))) hgrow8 (fun q hq => (HVL.out q hq).1)
          clear hown8 hgrow8 hat8
          go_wp2_with fail
          go_roundw
          case rel =>
            refine ⟨n + 1, js ++ [kd], by go_num, hlt, by have := HJN.out; simp; omega, HT8.out, fun q hq => ?_, hb8, ?_⟩
            · rcases List.mem_append.1 hq with hq | hq
              · exact HXY.out q hq
              · simp only [List.mem_singleton] at hq; rw [hq]; exact ⟨HKD.out.2.2.1, HKD.out.2.2.2.1⟩
            · rw [HRU.out, show tms (js ++ [kd]) = tms js ++ [(kd.a, kd.l)] from by simp [tms], HKD.out.2.2.2.2]
          case measure => simp [intOf]; omega
      · obtain rfl : n = ms.length := by omega
        have hni : decide ((ms.length : Int) < (ms.length : Int)) = false := by simp
        have HE : Hid (RunEnd w (tms ks) ms (.returned (.tuple #[.slice KA js.length kc, .int .i64 0])) wr) := by
          refine ⟨hbl, .inr ⟨js, _, ?_, rfl, HTA.out, HJN.out⟩⟩
          rw [HRP.out]
          have := HRUN.out
          rwa [List.take_length] at this
        go_wp2_with fail
        refine bodyPost_ret (v := .tuple #[.slice KA js.length kc, .int .i64 0]) (by simp [results, Tryz.results11]) rfl ?_
        exact HE.out

end Go.Proofs.YtanpplgmdemlaaaGreatDoor

namespace Go.Proofs.YtanpplgmdemlaaaGreatDoor
open Go.RowKit
set_option linter.unusedVariables false
set_option linter.unusedSimpArgs false

set_option maxRecDepth 20000 in
set_option maxHeartbeats 1000000 in
/-- Of nothing there is no way to a nonce. -/
theorem wayNone (w : World) (htab : Tab10 w.heap.size w) :
    Calls Tryz.prog 7 #[.slice none 0 0, .agg #[.int .i64 2, .int .i64 1, .string ⟨#[]⟩, .slice none 0 0]] w fun e w' => e = .returned (.tuple #[.slice none 0 0, .bool false]) ∧ Below w.heap.size w w' := by
  have HTB : Hid (Tab10 w.heap.size w) := htab
  clear htab
  have hba : Below w.heap.size w (w.alloc (.cells #[.int .i64 2, .int .i64 1, .string ⟨#[]⟩, .slice none 0 0] 27)) := Below.alloc (Below.refl _ _) (Nat.le_refl _) _
  go_enter Tryz.func7, Tryz.ntmps7
  go_wp2_with fail
  refine (knowCan_any [] _ kN .nil _ 0 _ (sl_none _) (fun k hk => by cases hk) (by simp [nodesK]) (by simp) (rep_kN _ 0) (Nat.zero_le _) may_kN (HTB.out.keep hba)).mono ?_
  intro e w1 h
  obtain ⟨rfl, hb1⟩ := canEnd_false knows_kN h
  have hb : Below w.heap.size w w1 := hba.trans (hb1.mono (by simp))
  clear h hb1
  go_wp2_with fail
  refine bodyPost_ret (v := .tuple #[.slice none 0 0, .bool false]) (by simp [results, Tryz.results7]) rfl ?_
  exact ⟨rfl, hb⟩

def fA : Fo := .node 0 0 kA .nil .nil
theorem may_kHA : may kH fA = true := by simp [may, mayT, mayB, mayF, formedB, kidsOf, flen, kH, fA, kA, empB]; decide
def mA : Mv := ⟨2, 0, 0, ⟨#[97]⟩⟩
def mH : Mv := ⟨6, 0, 0, ⟨#[]⟩⟩
theorem run_AH : runP [] [mA, mH] = .ok [(kA, .nil), (kH, fA)] := by
  have h1 : stepP [] [] mA = .ok (kA, .nil) := by
    have : rawP [] [] mA = .ok (kA, .nil) := by simp [rawP, mA, kA]
    unfold stepP
    rw [this]
    unfold mayP
    simp only [may_kA, if_true]
  have h2 : stepP [] [(kA, .nil)] mH = .ok (kH, fA) := by
    have : rawP [] [(kA, .nil)] mH = .ok (kH, fA) := by simp [rawP, mH, kH, fA, onP, atL]
    unfold stepP
    rw [this]
    unfold mayP
    simp only [may_kHA, if_true]
  unfold runP
  rw [if_neg (by simp), runS, h1]
  simp only [List.nil_append]
  rw [runS, h2]
  rfl
theorem run_0 : runP [] [mv0] = .error 2 := by
  have h1 : stepP [] [] mv0 = .error 2 := by simp [stepP, mayP, rawP, mv0]
  unfold runP
  rw [if_neg (by simp), runS, h1]

set_option maxRecDepth 100000 in
set_option maxHeartbeats 4000000 in
theorem known4_any (w : World) (htab : Tab10 w.heap.size w) : Calls Tryz.prog 4 #[] w fun e w' => e = .returned (.bool true) ∧ Below w.heap.size w w' := by
  have HTB : Hid (Tab10 w.heap.size w) := htab
  clear htab
  go_enter Tryz.func4, Tryz.ntmps4
  go_wp2_with fail
  have hal : Below w.heap.size w (w.alloc (.cells #[.int .i64 2, .int .i64 0, .int .i64 0, .string ⟨#[97]⟩, .int .i64 6, .int .i64 0, .int .i64 0, .string ⟨#[]⟩] 39)) := Below.alloc (Below.refl _ _) (Nat.le_refl _) _
  refine Calls.mono (run_any [] _ [mA, mH] (some ⟨w.heap.size, 0, none⟩) 2 (w.heap.size + 1) _ (sl_none _) (by simp) (by simp) (by simp) (.inr ⟨w.heap.size, 0, rfl, by omega, fun i hi => ?hx⟩) (by simp) (by intro m hm; simp only [List.mem_cons, List.not_mem_nil, or_false] at hm; rcases hm with rfl | rfl <;> (unfold maxLen; decide))) ?_
  case hx =>
    simp only [List.length_cons, List.length_nil] at hi
    rcases (show i = 0 ∨ i = 1 by omega) with rfl | rfl <;> simp [go_sem, mA, mH]
  intro e w1 h
  have hr := run_AH
  obtain ⟨hb1, ⟨z, hz, _, _⟩ | ⟨js, v, hjs, rfl, hta, hjl⟩⟩ := h
  · rw [show tms ([] : List Kd) = [] from rfl, hr] at hz; cases hz
  rw [show tms ([] : List Kd) = [] from rfl, hr] at hjs
  injection hjs with hjs
  obtain ⟨k1, k2, rfl⟩ : ∃ k1 k2, js = [k1, k2] := by
    match js, hjl with
    | [k1, k2], _ => exact ⟨k1, k2, rfl⟩
  simp only [tms, List.map_cons, List.map_nil, List.cons.injEq, Prod.mk.injEq, and_true] at hjs
  obtain ⟨hsl, hmm⟩ := hta.sl
  obtain ⟨A, c, rfl, hA⟩ := hsl.len
  obtain ⟨g, rfl, hrow⟩ : ∃ g, A = some ⟨g, 0, none⟩ ∧ RowT w1 g [k1, k2] := by rcases hA with h | h; simp at h; exact h
  have hbw1 : Below w.heap.size w w1 := hal.trans (hb1.mono (by simp))
  have HROW : Hid (RowT w1 g [k1, k2]) := hrow
  have HK2 : Hid (kH = k2.a ∧ fA = k2.l) := hjs.2
  simp only [List.length_cons, List.length_nil, Nat.zero_add, Nat.reduceAdd]
  clear hr hjs hta hsl hmm hA hrow hjl hb1
  go_wp2_with fail
  have hal1 : Below w1.heap.size w1 (w1.alloc (.cells #[.int .i64 0, .int .i64 0, .int .i64 0, .string ⟨#[]⟩] 39)) := Below.alloc (Below.refl _ _) (Nat.le_refl _) _
  refine Calls.mono (run_any [] _ [mv0] (some ⟨w1.heap.size, 0, none⟩) 1 (w1.heap.size + 1) _ (sl_none _) (by simp) (by simp) (by simp) (.inr ⟨w1.heap.size, 0, rfl, by omega, fun i hi => ?hx⟩) (by simp) (by intro m hm; simp only [List.mem_singleton] at hm; rw [hm]; unfold maxLen; decide)) ?_
  case hx =>
    simp only [List.length_cons, List.length_nil] at hi
    (obtain rfl : i = 0 := by omega); simp [go_sem, mv0]
  intro e w2 h
  have hr := run_0
  obtain ⟨hb2, ⟨z, hz, _, rfl⟩ | ⟨js, v, hjs, _⟩⟩ := h
  rotate_left
  · rw [show tms ([] : List Kd) = [] from rfl, hr] at hjs; cases hjs
  rw [show tms ([] : List Kd) = [] from rfl, hr] at hz
  injection hz with hz
  subst hz
  have hb2r : Below w1.heap.size w1 w2 := hal1.trans (hb2.mono (by simp))
  clear hr hb2
  go_wp2_with fail
  refine (refN_lit _ _).mono ?_
  rintro e w3 ⟨rfl, ho3⟩
  have hb3r : Below w1.heap.size w1 w3 := hb2r.trans (ho3.mono hb2r.size)
  go_wp2_with fail
  refine (wayNone w3 (HTB.out.keep (hbw1.trans (hb3r.mono hbw1.size)))).mono ?_
  rintro e w4 ⟨rfl, ho4⟩
  have hb4r : Below w1.heap.size w1 w4 := hb3r.trans (ho4.mono hb3r.size)
  clear ho3 ho4
  have HS : Hid (∀ W, Below w1.heap.size w1 W → (W.cell? ⟨g, 4, none⟩ = some (.int .i64 k2.a.kind) ∧ W.cell? ⟨g, 4 + 1, none⟩ = some (.int .i64 k2.a.n) ∧ W.cell? ⟨g, 4 + 2, none⟩ = some (.string k2.a.s) ∧ W.cell? ⟨g, 4 + 3, none⟩ = some (.slice k2.A (flen k2.l) k2.cap)) ∧ Below w1.heap.size w1 W) := fun W hW => ⟨by have := (HROW.out.below hW).at 1 (by simp); simpa [List.getD] using this, hW⟩
  have HT : Hid (∀ W, Below w1.heap.size w1 W → Calls Tryz.prog 14 #[.int .i64 3, .slice (some ⟨W.heap.size, 0, none⟩) 1 1] (W.alloc (.cells #[.int .i64 1, .int .i64 0, .string ⟨#[97]⟩, .slice none 0 0] 27)) fun e w' => e = .returned (.agg #[.int .i64 3, .int .i64 0, .string ⟨#[]⟩, .slice (some ⟨W.heap.size, 0, none⟩) 1 1]) ∧ Below w1.heap.size w1 w' ∧ Hid (RepV w' w'.heap.size kH fA (.agg #[.int .i64 3, .int .i64 0, .string ⟨#[]⟩, .slice (some ⟨W.heap.size, 0, none⟩) 1 1]))) := fun W hW =>
    (refT_lit 3 _ 1 1 _).mono fun e w' h => by
      obtain ⟨h1, h2⟩ := h
      have hs := h2.size
      have cc : ∀ o, w'.cell? ⟨W.heap.size, o, none⟩ = (#[.int .i64 1, .int .i64 0, .string ⟨#[97]⟩, .slice none 0 0] : Array Value)[o]? := fun o => by rw [h2.cell (by simp)]; simp [go_sem]
      refine ⟨h1, (Below.alloc hW hW.size _).trans (h2.mono (by have := hW.size; simp; omega)), fit_kH, some ⟨W.heap.size, 0, none⟩, 1, W.heap.size, 0, rfl, by simp [flen, fA], .inr rfl, by simp at hs; omega, fit_kA, by rw [cc]; rfl, by rw [cc]; rfl, by rw [cc]; rfl, ⟨none, 0, 0, 0, by rw [cc]; rfl, ⟨Nat.zero_le _, Nat.zero_le _⟩, .inl rfl, trivial⟩, trivial⟩
  have HSA : Hid (∀ W (v : Value), Below w1.heap.size w1 W → RepV W W.heap.size kH fA v → Calls Tryz.prog 13 #[k2.val, v] W fun e w' => e = .returned (.bool true) ∧ Below w1.heap.size w1 w') := fun W v hW hv => by
    have hok := HROW.out.2.2 k2 (by simp)
    have har := may_ar _ _ may_kHA
    refine (refSame_any k2.a k2.l kH fA _ _ W.heap.size W (Kd.rep (hok.1.below hW)) hv (Nat.le_refl _) hok.2.1 har.1 hok.2.2 har.2).mono ?_
    rintro e w' ⟨rfl, h⟩
    refine ⟨?_, hW.trans (h.mono hW.size)⟩
    rw [← HK2.out.1, ← HK2.out.2, ordT_self]; rfl
  go_wp2_with fail
  go_region_held3 (fun w' => (w'.cell? ⟨g, 4, none⟩ = some (.int .i64 k2.a.kind) ∧ w'.cell? ⟨g, 4 + 1, none⟩ = some (.int .i64 k2.a.n) ∧ w'.cell? ⟨g, 4 + 2, none⟩ = some (.string k2.a.s) ∧ w'.cell? ⟨g, 4 + 3, none⟩ = some (.slice k2.A (flen k2.l) k2.cap)) ∧ Below w1.heap.size w1 w')
    (first | assumption | exact HS.out _ hb4r.drew | exact HS.out _ ho6 | exact HS.out _ (Below.alloc ho6 (Below.size ho6) _) | exact HS.out _ ho7 | exact HS.out _ ho8)
    (first
      | (go_at_call 15; refine (refA_any _ _).mono ?_; rintro e w6 ⟨rfl, ho6'⟩; have ho6 : Below w1.heap.size w1 w6 := (hb4r.drew).trans (ho6'.mono hb4r.drew.size))
      | (go_at_call 14; refine (HT.out w6 ho6).mono ?_; rintro e w7 ⟨rfl, ho7, hrep7⟩)
      | (go_at_call 13; refine (HSA.out w7 _ ho7 hrep7.out).mono ?_; rintro e w8 ⟨rfl, ho8⟩))
  go_wp2_with fail
  go_ret
  exact ⟨rfl, hbw1.trans (ho8.mono hbw1.size)⟩

end Go.Proofs.YtanpplgmdemlaaaGreatDoor

namespace Go.Proofs.YtanpplgmdemlaaaGreatDoor
open Go.RowKit
set_option linter.unusedVariables false
set_option linter.unusedSimpArgs false

/-- So many of one move. -/
theorem run_atoms (us : List (Nd × Fo)) (m : Mv) (t : Nd × Fo) (h : ∀ rs, stepP us rs m = .ok t) : ∀ (k : Nat) (rs : List (Nd × Fo)), runS us rs (List.replicate k m) = .ok (rs ++ List.replicate k t)
  | 0, rs => by simp [runS]
  | k + 1, rs => by
    rw [List.replicate_succ, runS, h rs]
    simp only
    rw [run_atoms us m t h k (rs ++ [t]), List.replicate_succ, List.append_assoc]
    rfl

def kX : Nd := ⟨1, 0, ⟨#[120]⟩⟩
def mX : Mv := ⟨2, 0, 0, ⟨#[120]⟩⟩
theorem may_kX : may kX .nil = true := by simp [may, mayT, mayB, mayF, formedB, kidsOf, flen, kX, empB]; decide
theorem step_X (us rs : List (Nd × Fo)) : stepP us rs mX = .ok (kX, .nil) := by
  have : rawP us rs mX = .ok (kX, .nil) := by simp [rawP, mX, kX]
  unfold stepP
  rw [this]
  unfold mayP
  simp only [may_kX, if_true]
theorem run_many (k : Nat) : runP [] (List.replicate k mX) = if 1024 < k then .error 7 else .ok (List.replicate k (kX, .nil)) := by
  unfold runP
  rw [List.length_replicate]
  split
  · rfl
  · rw [run_atoms [] mX (kX, .nil) (step_X []) k []]; rfl

/-- A tower of Hashes over an Atom. -/
def towF : Nat → Fo
  | 0 => .nil
  | d + 1 => .node 0 0 (if d = 0 then kX else kH) (towF d) .nil
def towA (d : Nat) : Nd := if d = 0 then kX else kH
theorem towF_succ (d : Nat) : towF (d + 1) = .node 0 0 (towA d) (towF d) .nil := rfl
theorem kH_form : formedB kH.kind kH.n kH.s 1 = true := by simp [formedB, kidsOf, kH, empB]
theorem kX_form : formedB kX.kind kX.n kX.s 0 = true := by simp [formedB, kidsOf, kX, empB]; decide
theorem flen_tow (d : Nat) : flen (towF d) = if d = 0 then 0 else 1 := by
  cases d with
  | zero => rfl
  | succ d => rw [towF_succ]; rfl
theorem form_tow (d : Nat) : formedB (towA d).kind (towA d).n (towA d).s (flen (towF d)) = true := by
  rw [flen_tow]
  unfold towA
  by_cases h : d = 0
  · rw [if_pos h, if_pos h]; exact kX_form
  · rw [if_neg h, if_neg h]; exact kH_form
/-- A tower so high, so deep already, behind so many. -/
theorem mayT_tow : ∀ (d : Nat) (deep c : Int), c + d + 1 ≤ 64 → (mayT (towA d) (towF d) deep c).1 = decide (deep + d ≤ 16)
  | 0, deep, c, hc => by
    rw [mayT]
    by_cases hd : deep ≤ 16
    · rw [if_pos (by unfold mayB; rw [form_tow]; simp; omega)]
      simp [towF, mayF]; omega
    · rw [if_neg (by unfold mayB; simp; omega)]
      simp; omega
  | d + 1, deep, c, hc => by
    have ih := mayT_tow d (deep + 1) (c + 1) (by omega)
    rw [mayT]
    by_cases hd : deep ≤ 16
    · rw [if_pos (by unfold mayB; rw [form_tow]; simp; omega), towF_succ, mayF_node]
      by_cases h1 : (mayT (towA d) (towF d) (deep + 1) (c + 1)).1 = true
      · rw [if_pos h1]
        rw [h1] at ih
        simp only [mayF]
        have := of_decide_eq_true ih.symm
        symm; exact decide_eq_true (by omega)
      · rw [if_neg h1]
        have h2 : (mayT (towA d) (towF d) (deep + 1) (c + 1)).1 = false := by simpa using h1
        rw [h2] at ih
        have := of_decide_eq_false ih.symm
        simp only
        symm; exact decide_eq_false (by omega)
    · rw [if_neg (by unfold mayB; simp; omega)]
      simp only
      symm; exact decide_eq_false (by omega)
theorem may_tow (d : Nat) (h : d ≤ 60) : may (towA d) (towF d) = decide (d + 1 ≤ 16) := by
  unfold may
  rw [mayT_tow d 1 0 (by omega)]
  congr 1
  exact propext ⟨fun h => by omega, fun h => by omega⟩

def tows (j : Nat) : List (Nd × Fo) := (List.range j).map fun i => (towA i, towF i)
def mHs (i : Nat) : Mv := ⟨6, (i : Int), 0, ⟨#[]⟩⟩
theorem step_tow (j : Nat) (hj : j + 1 ≤ 60) : stepP [] (tows (j + 1)) (mHs j) = if j + 2 ≤ 16 then .ok (towA (j + 1), towF (j + 1)) else .error 3 := by
  have h1 : atL (tows (j + 1)) (j : Int) = some (towA j, towF j) := by
    unfold atL
    rw [if_pos ⟨by omega, by simp [tows]; omega⟩]
    simp [tows]
  have h2 : rawP [] (tows (j + 1)) (mHs j) = .ok (towA (j + 1), towF (j + 1)) := by
    unfold rawP
    rw [if_neg (show ¬ (mHs j).kind = 1 by simp [mHs]), if_neg (show ¬ (mHs j).kind = 2 by simp [mHs]), if_neg (show ¬ (mHs j).kind = 3 by simp [mHs]), if_neg (show ¬ (mHs j).kind = 4 by simp [mHs]), if_neg (show ¬ (mHs j).kind = 5 by simp [mHs]), if_pos (show (mHs j).kind = 6 ∨ (mHs j).kind = 7 by simp [mHs]), show (mHs j).a = (j : Int) from rfl, h1]
    rfl
  unfold stepP
  rw [h2]
  unfold mayP
  simp only [may_tow (j + 1) hj]
  by_cases h : j + 2 ≤ 16
  · rw [if_pos h, if_pos (by simp; omega)]
  · rw [if_neg h, if_neg (by simp; omega)]
theorem tows_succ (j : Nat) : tows (j + 1) = tows j ++ [(towA j, towF j)] := by simp [tows, List.range_succ]
theorem run_tow : ∀ (n j : Nat), j + n + 1 ≤ 60 → j + 1 ≤ 16 → runS [] (tows (j + 1)) ((List.range' j n).map mHs) = if j + n + 1 ≤ 16 then .ok (tows (j + n + 1)) else .error 3
  | 0, j, _, hj => by simp [runS, hj]
  | n + 1, j, h, hj => by
    rw [List.range'_succ, List.map_cons, runS, step_tow j (by omega)]
    by_cases h2 : j + 2 ≤ 16
    · rw [if_pos h2]
      simp only
      rw [← tows_succ, run_tow n (j + 1) (by omega) (by omega)]
      rw [show j + 1 + n + 1 = j + (n + 1) + 1 from by omega]
    · rw [if_neg h2, if_neg (by omega)]
theorem run_high (d : Nat) (h : d ≤ 50) : runP [] (mX :: (List.range d).map mHs) = if d + 1 ≤ 16 then .ok (tows (d + 1)) else .error 3 := by
  unfold runP
  rw [if_neg (by simp; omega), runS, step_X]
  simp only [List.nil_append]
  have := run_tow d 0 (by omega) (by omega)
  rw [show tows (0 + 1) = [(kX, .nil)] from rfl, List.range_eq_range'.symm] at this
  rw [this, show 0 + d + 1 = d + 1 from by omega]

end Go.Proofs.YtanpplgmdemlaaaGreatDoor

namespace Go.Proofs.YtanpplgmdemlaaaGreatDoor
open Go.RowKit
set_option linter.unusedVariables false
set_option linter.unusedSimpArgs false

theorem Tryz.infoMove : (Tryz.prog.info? 39).map (fun i => (i.zero, i.size, i.bytes)) = some (some (.agg #[.int .i64 0, .int .i64 0, .int .i64 0, .string ⟨#[]⟩]), 4, 40) := by kernel_rfl

def Mv.cells (m : Mv) : List Value := [.int .i64 m.kind, .int .i64 m.a, .int .i64 m.b, .string m.s]
def rowM : List Mv → List Value
  | [] => []
  | m :: r => m.cells ++ rowM r
theorem rowM_length : ∀ ms : List Mv, (rowM ms).length = 4 * ms.length
  | [] => rfl
  | m :: r => by simp [rowM, rowM_length r, Mv.cells]; omega
theorem rowM_append : ∀ (a b : List Mv), rowM (a ++ b) = rowM a ++ rowM b
  | [], _ => rfl
  | m :: r, b => by simp [rowM, rowM_append r b]
theorem rowM_get : ∀ (ms : List Mv) (i : Nat), i < ms.length → ∀ t, t < 4 → (rowM ms)[i * 4 + t]? = (ms.getD i mv0).cells[t]?
  | [], i, h, _, _ => by simp at h
  | m :: r, 0, _, t, ht => by
    rw [rowM, List.getElem?_append_left (by simp [Mv.cells]; omega)]
    simp [List.getD]
  | m :: r, i + 1, h, t, ht => by
    rw [rowM, List.getElem?_append_right (by simp [Mv.cells]; omega)]
    have := rowM_get r i (by simpa using h) t ht
    simp only [Mv.cells, List.length_cons, List.length_nil] at this ⊢
    rw [show (i + 1) * 4 + t - (0 + 1 + 1 + 1 + 1) = i * 4 + t from by omega, this]
    simp [List.getD]

theorem mvs_own {w : World} {base g cap : Nat} {ms : List Mv} {xs : List Value} (h : w.ownsRow base 39 4 (.slice (some ⟨g, 0, none⟩) ms.length cap) ms.length xs) (hx : xs = rowM ms) : MvsAt w w.heap.size ms (some ⟨g, 0, none⟩) := by
  subst hx
  refine .inr ⟨g, 0, rfl, (h.lt g rfl).2, fun i hi => ?_⟩
  have hc : ∀ t, t < 4 → w.cell? ⟨g, 0 + i * 4 + t, none⟩ = (ms.getD i mv0).cells[t]? := fun t ht => by
    rw [Nat.zero_add, h.cellAt (i * 4 + t) (by omega), rowM_get ms i hi t ht]
  exact ⟨hc 0 (by omega), hc 1 (by omega), hc 2 (by omega), hc 3 (by omega)⟩

/-- One more move stored over what was there. -/
theorem set_at4 (xs ys : List Value) (z0 z1 z2 z3 u0 u1 u2 u3 : Value) (n : Nat) (hn : xs.length = n) :
    ((((xs ++ z0 :: z1 :: z2 :: z3 :: ys).set n u0).set (n + 1) u1).set (n + 2) u2).set (n + 3) u3 = xs ++ u0 :: u1 :: u2 :: u3 :: ys := by
  subst hn
  rw [List.set_append_right _ _ (by omega), List.set_append_right _ _ (by simp), List.set_append_right _ _ (by simp), List.set_append_right _ _ (by simp)]
  simp [Nat.add_sub_cancel_left]

def FillRel (w : World) (g k : Nat) (iv : Value) (wr : World) : Prop :=
  ∃ (n : Nat) (ys : List Value), iv = .int .i64 (n : Int) ∧ n ≤ k ∧ ys.length = (k - n) * 4 ∧ wr.ownsRow w.heap.size 39 4 (.slice (some ⟨g, 0, none⟩) k k) k (rowM (List.replicate n mX) ++ ys) ∧ Below w.heap.size w wr

theorem fill_step {w wr : World} {g k n : Nat} {ys : List Value} (hn : n < k) (hy : ys.length = (k - n) * 4) (h : wr.ownsRow w.heap.size 39 4 (.slice (some ⟨g, 0, none⟩) k k) k (rowM (List.replicate n mX) ++ ys)) :
    ∃ ys', ys'.length = (k - (n + 1)) * 4 ∧ ((((wr.setCell ⟨g, n * 4, none⟩ (.int .i64 2)).setCell ⟨g, n * 4 + 1, none⟩ (.int .i64 0)).setCell ⟨g, n * 4 + 2, none⟩ (.int .i64 0)).setCell ⟨g, n * 4 + 3, none⟩ (.string ⟨#[120]⟩)).ownsRow w.heap.size 39 4 (.slice (some ⟨g, 0, none⟩) k k) k (rowM (List.replicate (n + 1) mX) ++ ys') := by
  match ys, hy with
  | z0 :: z1 :: z2 :: z3 :: ys', hy =>
    refine ⟨ys', by simp at hy ⊢; omega, ?_⟩
    have h4 := owns_setCell (owns_setCell (owns_setCell (owns_setCell h (n * 4) (.int .i64 2)) (n * 4 + 1) (.int .i64 0)) (n * 4 + 2) (.int .i64 0)) (n * 4 + 3) (.string ⟨#[120]⟩)
    rw [set_at4 _ _ _ _ _ _ _ _ _ _ (n * 4) (by rw [rowM_length]; simp; omega)] at h4
    have e : rowM (List.replicate (n + 1) mX) = rowM (List.replicate n mX) ++ [.int .i64 2, .int .i64 0, .int .i64 0, .string ⟨#[120]⟩] := by
      rw [List.replicate_succ', rowM_append]; rfl
    rw [e, List.append_assoc]
    exact h4
  | [], hy => simp at hy; omega
  | [_], hy => simp at hy; omega
  | [_, _], hy => simp at hy; omega
  | [_, _, _], hy => simp at hy; omega

end Go.Proofs.YtanpplgmdemlaaaGreatDoor
