import Derived.Test.YtldpnhlifgkmiaaDoorV9
import Derived.Test.YtldpnhlifgkmiaaDoorW23
namespace Go.Proofs.YtldpnhlifgkmiaaDoor
open Go.RowKit
set_option linter.unusedVariables false
set_option linter.unusedSimpArgs false

/-- What comes of moves, one behind the other. -/
def runS (us : List (Nd × Fo)) : List (Nd × Fo) → List Mv → Except Int (List (Nd × Fo))
  | rs, [] => .ok rs
  | rs, m :: r => match stepP us rs m with | .error e => .error e | .ok t => runS us (rs ++ [t]) r
def runP (us : List (Nd × Fo)) (ms : List Mv) : Except Int (List (Nd × Fo)) := if 1024 < ms.length then .error 7 else runS us [] ms

theorem runS_append (us : List (Nd × Fo)) : ∀ (rs : List (Nd × Fo)) (a b : List Mv), runS us rs (a ++ b) = (match runS us rs a with | .error e => .error e | .ok rs' => runS us rs' b)
  | rs, [], b => rfl
  | rs, m :: r, b => by
    rw [List.cons_append, runS, runS]
    cases stepP us rs m with
    | error e => rfl
    | ok t => exact runS_append us (rs ++ [t]) r b

def mv0 : Mv := ⟨0, 0, 0, ⟨#[]⟩⟩
/-- The moves lie in w below B. -/
def MvsAt (w : World) (B : Nat) (ms : List Mv) (A : Option Addr) : Prop :=
  ms = [] ∨ ∃ mb mo, A = some ⟨mb, mo, none⟩ ∧ mb < B ∧ ∀ i, i < ms.length → w.cell? ⟨mb, mo + i * 4, none⟩ = some (.int .i64 (ms.getD i mv0).kind) ∧ w.cell? ⟨mb, mo + i * 4 + 1, none⟩ = some (.int .i64 (ms.getD i mv0).a) ∧ w.cell? ⟨mb, mo + i * 4 + 2, none⟩ = some (.int .i64 (ms.getD i mv0).b) ∧ w.cell? ⟨mb, mo + i * 4 + 3, none⟩ = some (.string (ms.getD i mv0).s)

theorem RepVG.kd0 {w : World} {S : Nat → Prop} {a : Nd} {l : Fo} {v : Value} (h : RepVG w S a l v) : ∃ k : Kd, k.a = a ∧ k.l = l ∧ v = k.val ∧ k.Ok w S ∧ k.x = 0 ∧ k.y = 0 := by
  obtain ⟨hf, A, cap, b, o, hv, hn, hA, hl⟩ := h
  exact ⟨⟨0, 0, a, l, A, cap, b, o⟩, rfl, rfl, hv, ⟨hf, hn, hA, hl⟩, rfl, rfl⟩

/-- A row of one's own with one more, still one's own. -/
theorem terms_append {B : Nat} {w6 w7 w8 : World} {v v8 : Value} {ks : List Kd} {kd : Kd} (ht : TermsAt w6 B v ks) (hB : B ≤ w6.heap.size) (hb7 : Below w6.heap.size w6 w7) (hkd : kd.Ok w7 (fun b => w6.heap.size ≤ b ∧ b < w7.heap.size)) (hmk : may kd.a kd.l = true)
    (hown : w8.ownsRow B 29 4 v8 (ks.length + 1) (rowOf ks ++ kd.cells)) (hgrow : (w7.alloc (.cells #[.int .i64 kd.a.kind, .int .i64 kd.a.n, .string kd.a.s, .slice kd.A (flen kd.l) kd.cap] 29)).grownBy w8 v.ownBlock)
    (hat : v8.ownBlock = v.ownBlock ∨ v8.ownBlock = some (w7.heap.size + 1)) : TermsAt w8 B v8 (ks ++ [kd]) := by
  have hs := hgrow.size
  rw [World.heap_size_alloc'] at hs
  have hs7 := hb7.size
  have hc : ∀ b o, b < w7.heap.size → v.ownBlock ≠ some b → w8.cell? ⟨b, o, none⟩ = w7.cell? ⟨b, o, none⟩ := fun b o hb hv => by
    rw [World.cell?_of_block (w := w7.alloc _) (a := ⟨b, o, none⟩) (hgrow.block b (by rw [World.heap_size_alloc']; omega) (fun e => hv e.symm))]
    exact World.cell?_of_block (Below.heap_alloc _ _ _ hb)
  have hv8 : ∀ b, b < w7.heap.size → v.ownBlock ≠ some b → v8.ownBlock ≠ some b := fun b hb hv e => by
    rcases hat with h | h
    · exact hv (by rw [← h]; exact e)
    · rw [h] at e; injection e with e; omega
  refine ⟨by rw [List.length_append, rowOf_append]; simpa [rowOf] using hown, fun k hk => ?_⟩
  rcases List.mem_append.1 hk with hk | hk
  · refine ⟨(ht.2 k hk).1.keep (fun b hb => ⟨hb.1, by have := hb.2.1; omega, hv8 b (by have := hb.2.1; omega) hb.2.2⟩) (fun b o hb => (hc b o (by have := hb.2.1; omega) hb.2.2).trans (hb7.cell (by simpa using hb.2.1))), (ht.2 k hk).2⟩
  · simp only [List.mem_singleton] at hk
    subst hk
    have hno : ∀ b, w6.heap.size ≤ b → v.ownBlock ≠ some b := fun b hb e => by have := ht.1.lt b e; omega
    exact ⟨hkd.keep (fun b hb => ⟨by omega, by omega, hv8 b hb.2 (hno b hb.1)⟩) (fun b o hb => hc b o hb.2 (hno b hb.1)), hmk⟩

def RunEnd (w : World) (us : List (Nd × Fo)) (ms : List Mv) (e : Ending) (w' : World) : Prop :=
  Below w.heap.size w w' ∧ ((∃ z, runP us ms = .error z ∧ z ≠ 0 ∧ e = .returned (.tuple #[.slice none 0 0, .int .i64 z])) ∨ ∃ (js : List Kd) (v : Value), runP us ms = .ok (tms js) ∧ e = .returned (.tuple #[v, .int .i64 0]) ∧ TermsAt w' w.heap.size v js ∧ js.length = ms.length)

def RunRel (w : World) (us : List (Nd × Fo)) (ms : List Mv) (kv iv : Value) (wr : World) : Prop :=
  ∃ (n : Nat) (js : List Kd), iv = .int .i64 (n : Int) ∧ n ≤ ms.length ∧ js.length = n ∧ TermsAt wr w.heap.size kv js ∧ (∀ k ∈ js, k.x = 0 ∧ k.y = 0) ∧ Below w.heap.size w wr ∧ runS us [] (ms.take n) = .ok (tms js)

theorem TermsAt.len {w : World} {B : Nat} {v : Value} {ks : List Kd} (h : TermsAt w B v ks) : ∃ A c, v = .slice A ks.length c := by
  rcases h.1.2 with ⟨h1, h2⟩ | ⟨g, cap, cur, h1, _⟩
  · exact ⟨none, 0, by rw [h1, h2]⟩
  · exact ⟨_, cap, h1⟩

theorem run_take_err {us : List (Nd × Fo)} {ms : List Mv} {n : Nat} {rs : List (Nd × Fo)} {m : Mv} {z : Int} (hn : n < ms.length) (hm : ms.getD n mv0 = m) (h1 : runS us [] (ms.take n) = .ok rs) (h2 : stepP us rs m = .error z) : runS us [] ms = .error z := by
  have e : ms = ms.take n ++ (m :: ms.drop (n + 1)) := by
    rw [← hm, show ms.getD n mv0 = ms[n] from by simp [List.getD, List.getElem?_eq_getElem hn], ← List.drop_eq_getElem_cons hn, List.take_append_drop]
  rw [e, runS_append, h1]
  simp only [runS, h2]
theorem run_take_ok {us : List (Nd × Fo)} {ms : List Mv} {n : Nat} {rs : List (Nd × Fo)} {m : Mv} {t : Nd × Fo} (hn : n < ms.length) (hm : ms.getD n mv0 = m) (h1 : runS us [] (ms.take n) = .ok rs) (h2 : stepP us rs m = .ok t) : runS us [] (ms.take (n + 1)) = .ok (rs ++ [t]) := by
  have e : ms.take (n + 1) = ms.take n ++ [m] := by rw [List.take_succ_eq_append_getElem hn, ← hm]; simp [List.getD, List.getElem?_eq_getElem hn]
  rw [e, runS_append, h1]
  simp only [runS, h2]

set_option maxRecDepth 100000 in
set_option maxHeartbeats 4000000 in
theorem run_any (ks : List Kd) (lv : Value) (ms : List Mv) (MA : Option Addr) (mc B : Nat) (w : World) (h : SlT w lv ks) (hl : ks.length ≤ 2000) (hm : ∀ k ∈ ks, may k.a k.l = true) (hB : B ≤ w.heap.size) (hms : MvsAt w B ms MA) (hml : ms.length ≤ 9223372036854775807) (hs : ∀ m ∈ ms, m.s.size ≤ maxLen) :
    Calls Tryd.prog 24 #[lv, .slice MA ms.length mc] w fun e w' => RunEnd w (tms ks) ms e w' := by
  have HSL : Hid (SlT w lv ks) := h
  have HM : Hid (∀ k ∈ ks, may k.a k.l = true) := hm
  have HMS : Hid (MvsAt w B ms MA) := hms
  have HSS : Hid (∀ m ∈ ms, m.s.size ≤ maxLen) := hs
  clear h hm hms hs
  obtain ⟨i5, hi, hz0, hz1, hz2⟩ := info_get Tryd.infoTerm
  go_enter Tryd.func24, Tryd.ntmps24
  by_cases hbig : 1024 < ms.length
  · have hd : decide ((1024 : Int) < (ms.length : Int)) = true := by simp; omega
    have HE : Hid (runP (tms ks) ms = .error 7) := by show runP _ _ = _; unfold runP; rw [if_pos hbig]
    clear hbig
    go_wp2_with fail
    refine bodyPost_ret (v := .tuple #[.slice none 0 0, .int .i64 7]) (by simp [results, Tryd.results24]) rfl ?_
    exact ⟨Below.refl _ _, .inl ⟨7, HE.out, by decide, rfl⟩⟩
  · have hd : decide ((1024 : Int) < (ms.length : Int)) = false := by simp; omega
    have HRP : Hid (runP (tms ks) ms = runS (tms ks) [] ms) := by show runP _ _ = _; unfold runP; rw [if_neg hbig]
    go_wp2_with (at_make; refine wpList_make_own _ rfl _ _ 24 rfl w.heap.size 29 i5 (.agg #[.int .i64 0, .int .i64 0, .string ⟨#[]⟩, .slice none 0 0]) 4 Tryd.underlying24 hi hz0 hz1 _ _ _ ms.length rfl rfl (by omega) ?b2 ?b3 (Nat.le_refl _) ?_)
    case b2 => rw [hz2]; omega
    case b3 => unfold maxLen; omega
    intro w0 hown0 hgrow0
    have hbl0 : Below w.heap.size w w0 := Below.grown (Below.refl _ _) hgrow0 (Nat.le_refl _) (fun k hk => by cases hk)
    clear hgrow0
    go_wp2_with fail
    go_loopw [6, 19] (fun kv iv wr => RunRel w (tms ks) ms kv iv wr) (fun _ iv _ => ms.length - (intOf iv).toNat)
    case atStart => exact ⟨0, [], rfl, by omega, rfl, ⟨hown0, by simp⟩, by simp, hbl0, by simp [runS, tms]⟩
    case round =>
      obtain ⟨n, js, rfl, hn, hjn, hta, hxy, hbl, hrun⟩ := hrel
      have HTA : Hid (TermsAt wr w.heap.size u6 js) := hta
      have HXY : Hid (∀ k ∈ js, k.x = 0 ∧ k.y = 0) := hxy
      have HRUN : Hid (runS (tms ks) [] (ms.take n) = .ok (tms js)) := hrun
      have hsr := hbl.size
      have HJN : Hid (js.length = n) := hjn
      have hjl : js.length ≤ 1024 := by omega
      clear hown0 hbl0 hxy hrun hjn
      obtain ⟨KA, kc, rfl⟩ := hta.len
      clear hta
      by_cases hlt : n < ms.length
      · obtain ⟨mb, mo, rfl, hmb, hcm⟩ : ∃ mb mo, MA = some ⟨mb, mo, none⟩ ∧ mb < B ∧ ∀ i, i < ms.length → w.cell? ⟨mb, mo + i * 4, none⟩ = some (.int .i64 (ms.getD i mv0).kind) ∧ w.cell? ⟨mb, mo + i * 4 + 1, none⟩ = some (.int .i64 (ms.getD i mv0).a) ∧ w.cell? ⟨mb, mo + i * 4 + 2, none⟩ = some (.int .i64 (ms.getD i mv0).b) ∧ w.cell? ⟨mb, mo + i * 4 + 3, none⟩ = some (.string (ms.getD i mv0).s) := by
          rcases HMS.out with h | h
          · rw [h] at hlt; simp at hlt
          · exact h
        obtain ⟨c0, c1, c2, c3⟩ := hcm n hlt
        have hcl : ∀ j, wr.cell? ⟨mb, j, none⟩ = w.cell? ⟨mb, j, none⟩ := fun j => hbl.cell (by simp; omega)
        rw [← hcl] at c0 c1 c2 c3
        have hss := HSS.out (ms.getD n mv0) (by simp [List.getD, List.getElem?_eq_getElem hlt])
        generalize hm0 : ms.getD n mv0 = m at *
        have HM0 : Hid (ms.getD n mv0 = m) := hm0
        clear hcm hcl hm0
        have hni : (n : Int) < (ms.length : Int) := by omega
        have hn0 : (0 : Int) ≤ (n : Int) := by omega
        have hmw : mb < wr.heap.size := by omega
        have hal : Below wr.heap.size wr (wr.alloc (.cells #[.int .i64 m.kind, .int .i64 m.a, .int .i64 m.b, .string m.s] 47)) := Below.alloc (Below.refl _ _) (Nat.le_refl _) _
        go_wp2_with fail
        refine (result_any m ks js _ _ _ (HSL.out.below (hbl.trans (hal.mono hsr))) (HTA.out.sl.1.below hal) hl (by omega) HM.out HTA.out.sl.2 HXY.out hss).mono ?_
        rintro e w1 ⟨hb1, ⟨z, hst, hz, rfl⟩ | ⟨k, hst, rfl, hok, hmk⟩⟩
        · have HE : Hid (runP (tms ks) ms = .error z) := by show runP _ _ = _; rw [HRP.out]; exact run_take_err hlt HM0.out HRUN.out hst
          have hzne : (z != 0) = true := by simp [hz]
          have HZ : Hid (z ≠ 0) := hz
          have hb1w : Below w.heap.size w w1 := (hbl.trans (hal.mono hsr)).trans (hb1.mono (by simp; omega))
          clear hst hz
          go_wp2_with fail
          refine bodyPost_ret (v := .tuple #[.slice none 0 0, .int .i64 z]) (by simp [results, Tryd.results24]) rfl ?_
          exact ⟨Below.alloc hb1w hb1w.size _, .inl ⟨z, HE.out, HZ.out, rfl⟩⟩
        · have hb1r : Below wr.heap.size wr w1 := hal.trans (hb1.mono (by simp))
          have HRU : Hid (runS (tms ks) [] (ms.take (n + 1)) = .ok (tms js ++ [(k.a, k.l)])) := run_take_ok hlt HM0.out HRUN.out hst
          have HOK : Hid (k.Ok w1 (fun b => b < w1.heap.size) ∧ may k.a k.l = true) := ⟨hok, hmk⟩
          have hal1 : Below w1.heap.size w1 (w1.alloc (.cells #[.int .i64 k.a.kind, .int .i64 k.a.n, .string k.a.s, .slice k.A (flen k.l) k.cap] 29)) := Below.alloc (Below.refl _ _) (Nat.le_refl _) _
          clear hst hok hmk c0 c1 c2 c3
          go_wp2_with fail
          refine (pfresh_any k.a k.l _ (w1.heap.size + 1) _ (by have := Kd.rep (HOK.out.1.below hal1); rwa [World.heap_size_alloc'] at this) (by simp) (may_ar _ _ HOK.out.2).1 (may_ar _ _ HOK.out.2).2).mono ?_
          rintro e w2 ⟨u, rfl, ho2, hu⟩
          obtain ⟨kd, ka, kl, rfl, hkd, hx0, hy0⟩ := hu.kd0
          have hs1 := hb1r.size
          have hs2 := ho2.size
          simp only [World.heap_size_alloc'] at hs2
          have hb2 : Below wr.heap.size wr w2 := hb1r.trans ((hal1.trans (ho2.mono (by simp))).mono hs1)
          have hmkd : may kd.a kd.l = true := by rw [ka, kl]; exact HOK.out.2
          have HKD : Hid (kd.Ok w2 (fun b => wr.heap.size ≤ b ∧ b < w2.heap.size) ∧ may kd.a kd.l = true ∧ kd.x = 0 ∧ kd.y = 0 ∧ (kd.a, kd.l) = (k.a, k.l)) := ⟨hkd.keep (fun b hb => ⟨by have := hb.1; simp at this; omega, hb.2⟩) (fun _ _ _ => rfl), hmkd, hx0, hy0, by rw [ka, kl]⟩
          have hvl := HTA.out.1.lt
          have HVL : Hid (∀ q, (Value.slice KA js.length kc).ownBlock = some q → w.heap.size ≤ q ∧ q < wr.heap.size) := hvl
          clear hu ka kl hkd hx0 hy0 hmkd hvl
          go_wp2_with (at_builtin; refine wpList_append_any _ rfl _ _ 24 rfl w.heap.size 29 i5 (.agg #[.int .i64 0, .int .i64 0, .string ⟨#[]⟩, .slice none 0 0]) 4 56 Tryd.underlying24 hi hz0 hz1 hz2 rfl (by decide) (.slice KA js.length kc) js.length (rowOf js) rfl ?own (some ⟨w2.heap.size, 0, none⟩) 1 1 kd.cells rfl ?src ?c3 ?c4 ?c5 ?_)
          case own => exact (owns_below HTA.out.1 hb2).alloc _
          case src => exact .inr ⟨_, rfl, rfl, World.news_of_block (cs := #[.int .i64 kd.a.kind, .int .i64 kd.a.n, .string kd.a.s, .slice kd.A (flen kd.l) kd.cap]) (t := 29) (fr := (0, 0)) (heap_alloc_new w2 _), by simp [Kd.cells, Value.oneCell']⟩
          case c3 => unfold maxLen; omega
          case c4 => omega
          case c5 => simp; omega
          intro v8 w8 hown8 hgrow8 hat8
          have HT8 : Hid (TermsAt w8 w.heap.size v8 (js ++ [kd])) := terms_append HTA.out hsr hb2 HKD.out.1 HKD.out.2.1 hown8 hgrow8 (by rcases hat8 with h | h; exact .inl h; (right; simpa using h))
          have hb8 : Below w.heap.size w w8 := grown_belowT ((hbl.trans (hb2.mono hsr)).trans ((Below.alloc (Below.refl _ _) (Nat.le_refl _) _).mono (by omega))) hgrow8 (fun q hq => (HVL.out q hq).1)
          clear hown8 hgrow8 hat8
          go_wp2_with fail
          go_roundw
          case rel =>
            refine ⟨n + 1, js ++ [kd], by go_num, hlt, by have := HJN.out; simp; omega, HT8.out, fun q hq => ?_, hb8, ?_⟩
            · rcases List.mem_append.1 hq with hq | hq
              · exact HXY.out q hq
              · simp only [List.mem_singleton] at hq; rw [hq]; exact ⟨HKD.out.2.2.1, HKD.out.2.2.2.1⟩
            · rw [HRU.out, show tms (js ++ [kd]) = tms js ++ [(kd.a, kd.l)] from by simp [tms], HKD.out.2.2.2.2]
          case measure => simp [intOf]; omega
      · obtain rfl : n = ms.length := by omega
        have hni : decide ((ms.length : Int) < (ms.length : Int)) = false := by simp
        have HE : Hid (RunEnd w (tms ks) ms (.returned (.tuple #[.slice KA js.length kc, .int .i64 0])) wr) := by
          refine ⟨hbl, .inr ⟨js, _, ?_, rfl, HTA.out, HJN.out⟩⟩
          rw [HRP.out]
          have := HRUN.out
          rwa [List.take_length] at this
        go_wp2_with fail
        refine bodyPost_ret (v := .tuple #[.slice KA js.length kc, .int .i64 0]) (by simp [results, Tryd.results24]) rfl ?_
        exact HE.out

end Go.Proofs.YtldpnhlifgkmiaaDoor
