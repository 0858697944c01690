import Derived.Test.YtldpnhlifgkmiaaDoorV2
namespace Go.Proofs.YtldpnhlifgkmiaaDoor
open Go.RowKit
set_option linter.unusedVariables false
set_option linter.unusedSimpArgs false

/-- Whether a number is one of n. -/
def inR (n : Nat) (x : Int) : Prop := 0 ≤ x ∧ x < (n : Int)
def pickK (ks : List Kd) (xs : List Int) : List Kd := xs.map fun x => ks.getD x.toNat kd0

def PickEnd (w : World) (ks : List Kd) (xs : List Int) (e : Ending) (w' : World) : Prop :=
  Below w.heap.size w w' ∧ (((∀ x ∈ xs, inR ks.length x) ∧ ∃ g c, e = .returned (.tuple #[.slice (some ⟨g, 0, none⟩) xs.length c, .bool true]) ∧ w.heap.size ≤ g ∧ xs.length ≤ c ∧ RowT w' g (pickK ks xs)) ∨ ((∃ x ∈ xs, ¬ inR ks.length x) ∧ e = .returned (.tuple #[.slice none 0 0, .bool false])))

def PickRel (w : World) (ks : List Kd) (xs : List Int) (kv iv : Value) (wr : World) : Prop :=
  ∃ (n g c : Nat), iv = .int .i64 (n : Int) ∧ kv = .slice (some ⟨g, 0, none⟩) n c ∧ n ≤ xs.length ∧ (∀ x ∈ xs.take n, inR ks.length x) ∧ Below w.heap.size w wr ∧ wr.ownsRow w.heap.size 29 4 (.slice (some ⟨g, 0, none⟩) n c) n (rowOf (pickK ks (xs.take n)))

set_option maxRecDepth 20000 in
set_option maxHeartbeats 4000000 in
theorem ppick_any (ks : List Kd) (v : Value) (xs : List Int) (q c1 : Nat) (w : World) (h : SlT w v ks) (hl : ks.length ≤ 2000) (hq : q < w.heap.size) (hx : ∀ i, i < xs.length → w.cell? ⟨q, i, none⟩ = some (.int .i64 (xs.getD i 0))) (hxl : xs.length ≤ 2) :
    Calls Tryd.prog 76 #[v, .slice (some ⟨q, 0, none⟩) xs.length c1] w fun e w' => PickEnd w ks xs e w' := by
  obtain ⟨A, c, rfl, hA⟩ := h.len
  have HA : Hid (ks.length = 0 ∨ ∃ g, A = some ⟨g, 0, none⟩ ∧ RowT w g ks) := hA
  have HOKS : Hid _ := h.oks
  have HX : Hid (∀ i, i < xs.length → w.cell? ⟨q, i, none⟩ = some (.int .i64 (xs.getD i 0))) := hx
  clear h hA hx
  obtain ⟨i5, hi, hz0, hz1, hz2⟩ := info_get Tryd.infoTerm
  go_enter Tryd.func76, Tryd.ntmps76
  go_wp2_with (at_make; refine wpList_make_own _ rfl _ _ 24 rfl w.heap.size 29 i5 (.agg #[.int .i64 0, .int .i64 0, .string ⟨#[]⟩, .slice none 0 0]) 4 Tryd.underlying24 hi hz0 hz1 _ _ _ xs.length rfl rfl (by omega) ?b2 ?b3 (Nat.le_refl _) ?_)
  case b2 => rw [hz2]; omega
  case b3 => unfold maxLen; omega
  intro w0 hown0 hgrow0
  have hbl0 : Below w.heap.size w w0 := Below.grown (Below.refl _ _) hgrow0 (Nat.le_refl _) (fun k hk => by cases hk)
  clear hgrow0
  go_wp2_with fail
  go_loopw [6, 14] (fun kv iv wr => PickRel w ks xs kv iv wr) (fun _ iv _ => xs.length - (intOf iv).toNat)
  case atStart => exact ⟨0, w.heap.size, xs.length, rfl, rfl, by omega, by simp, hbl0, hown0⟩
  case round =>
    obtain ⟨n, g, c2, rfl, rfl, hn, hin, hbl, hown⟩ := hrel
    have HOWN : Hid (wr.ownsRow w.heap.size 29 4 (.slice (some ⟨g, 0, none⟩) n c2) n (rowOf (pickK ks (xs.take n)))) := hown
    have HIN : Hid (∀ x ∈ xs.take n, inR ks.length x) := hin
    have hgl := hown.lt g rfl
    clear hown hown0 hbl0 hin
    by_cases hlt : n < xs.length
    · have hcx : wr.cell? ⟨q, n, none⟩ = some (.int .i64 (xs.getD n 0)) := by rw [hbl.cell (by simpa using hq)]; exact HX.out n hlt
      have htk : xs.take (n + 1) = xs.take n ++ [xs.getD n 0] := by rw [List.take_succ_eq_append_getElem hlt]; simp [List.getD, List.getElem?_eq_getElem hlt]
      have hmx : xs.getD n 0 ∈ xs := by simp [List.getD, List.getElem?_eq_getElem hlt]
      have HTK : Hid (xs.take (n + 1) = xs.take n ++ [xs.getD n 0]) := htk
      have HMX : Hid (xs.getD n 0 ∈ xs) := hmx
      generalize xs.getD n 0 = x at *
      have hni : (n : Int) < (xs.length : Int) := by omega
      have hn0 : (0 : Int) ≤ (n : Int) := by omega
      clear htk hmx
      by_cases hr0 : x < 0
      · have d0 : decide (x < 0) = true := by simp [hr0]
        have HNR : Hid (¬ inR ks.length x) := fun h => by have := h.1; omega
        clear hr0
        go_wp2_with fail
        refine bodyPost_ret (v := .tuple #[.slice none 0 0, .bool false]) (by simp [results, Tryd.results76]) rfl ?_
        exact ⟨hbl, .inr ⟨⟨x, HMX.out, HNR.out⟩, rfl⟩⟩
      · have d0 : decide (x < 0) = false := by simp; omega
        by_cases hr1 : (ks.length : Int) ≤ x
        · have HNR : Hid (¬ inR ks.length x) := fun h => by have := h.2; omega
          have d1 : decide ((ks.length : Int) ≤ x) = true := by simp [hr1]
          clear hr0 hr1
          go_wp2_with fail
          refine bodyPost_ret (v := .tuple #[.slice none 0 0, .bool false]) (by simp [results, Tryd.results76]) rfl ?_
          exact ⟨hbl, .inr ⟨⟨x, HMX.out, HNR.out⟩, rfl⟩⟩
        · have d1 : decide ((ks.length : Int) ≤ x) = false := by simp; omega
          obtain ⟨y, rfl⟩ : ∃ y : Nat, x = (y : Int) := ⟨x.toNat, by omega⟩
          have hy : y < ks.length := by omega
          obtain ⟨gl, rfl, hrow⟩ : ∃ g, A = some ⟨g, 0, none⟩ ∧ RowT w g ks := by rcases HA.out with h | h; omega; exact h
          obtain ⟨e0, e1, e2, e3⟩ := (hrow.below hbl).at y hy
          have hyi : (y : Int) < (ks.length : Int) := by omega
          have hy0 : (0 : Int) ≤ (y : Int) := by omega
          have hpk : pickK ks (xs.take (n + 1)) = pickK ks (xs.take n) ++ [ks.getD y kd0] := by rw [HTK.out]; simp [pickK]
          generalize ks.getD y kd0 = z at *
          have HPK : Hid (pickK ks (xs.take (n + 1)) = pickK ks (xs.take n) ++ [z]) := hpk
          clear hpk hrow hr0 hr1
          have hal : Below wr.heap.size wr (wr.alloc (.cells #[.int .i64 z.a.kind, .int .i64 z.a.n, .string z.a.s, .slice z.A (flen z.l) z.cap] 29)) := Below.alloc (Below.refl _ _) (Nat.le_refl _) _
          have hsr := hbl.size
          go_wp2_with (at_builtin; refine wpList_append_any _ rfl _ _ 24 rfl w.heap.size 29 i5 (.agg #[.int .i64 0, .int .i64 0, .string ⟨#[]⟩, .slice none 0 0]) 4 56 Tryd.underlying24 hi hz0 hz1 hz2 rfl (by decide) (.slice (some ⟨g, 0, none⟩) n c2) n (rowOf (pickK ks (xs.take n))) rfl ?own (some ⟨wr.heap.size, 0, none⟩) 1 1 z.cells rfl ?src ?c3 ?c4 ?c5 ?_)
          case own => exact HOWN.out.alloc _
          case src => exact .inr ⟨_, rfl, rfl, World.news_of_block (cs := #[.int .i64 z.a.kind, .int .i64 z.a.n, .string z.a.s, .slice z.A (flen z.l) z.cap]) (t := 29) (fr := (0, 0)) (heap_alloc_new wr _), by simp [Kd.cells, Value.oneCell']⟩
          case c3 => unfold maxLen; omega
          case c4 => omega
          case c5 => simp; omega
          intro v8 w8 hown8 hgrow8 hat8
          obtain ⟨g8, c8, rfl⟩ : ∃ g c, v8 = .slice (some ⟨g, 0, none⟩) (n + 1) c := by
            rcases hown8.2 with ⟨_, h1⟩ | ⟨g, cap, cur, h1, _⟩
            · omega
            · exact ⟨g, cap, h1⟩
          have hb8 : Below w.heap.size w w8 := grown_belowT (hbl.trans (hal.mono hsr)) hgrow8 (fun q hq => by simp [Value.ownBlock] at hq; omega)
          have HO8 : Hid (w8.ownsRow w.heap.size 29 4 (.slice (some ⟨g8, 0, none⟩) (n + 1) c8) (n + 1) (rowOf (pickK ks (xs.take (n + 1))))) := by
            show World.ownsRow _ _ _ _ _ _ _
            rw [HPK.out, rowOf_append]
            simpa [rowOf] using hown8
          clear hown8 hgrow8 hat8 e0 e1 e2 e3 hcx
          go_wp2_with fail
          go_roundw
          case rel =>
            refine ⟨n + 1, g8, c8, by go_num, rfl, hlt, fun x hx => ?_, hb8, HO8.out⟩
            rw [HTK.out] at hx
            rcases List.mem_append.1 hx with hx | hx
            · exact HIN.out x hx
            · simp only [List.mem_singleton] at hx; rw [hx]; exact ⟨hy0, hyi⟩
          case measure => simp [intOf]; omega
    · obtain rfl : n = xs.length := by omega
      have hni : decide ((xs.length : Int) < (xs.length : Int)) = false := by simp
      have hcap : xs.length ≤ c2 := by rcases HOWN.out.2 with ⟨h1, _⟩ | ⟨g', c', cur, h1, h2, h3, h4, _⟩; cases h1; injection h1 with h5 h6 h7; omega
      have HE : Hid (PickEnd w ks xs (.returned (.tuple #[.slice (some ⟨g, 0, none⟩) xs.length c2, .bool true])) wr) := by
        have ho := HOWN.out
        have hi := HIN.out
        rw [List.take_length] at ho hi
        refine ⟨hbl, .inl ⟨hi, g, c2, rfl, hgl.1, hcap, hgl.2, fun t ht => ?_, fun k hk => ?_⟩⟩
        · have := ho.cellAt t (by simp [pickK] at ht; omega)
          exact this
        · rw [pickK, List.mem_map] at hk
          obtain ⟨x, hx, rfl⟩ := hk
          have hr := hi x hx
          have hm := getD_mem (ks := ks) (i := x.toNat) (by have h1 := hr.1; have h2 := hr.2; omega)
          exact ⟨(HOKS.out _ hm).1.below hbl, (HOKS.out _ hm).2⟩
      go_wp2_with fail
      refine bodyPost_ret (v := .tuple #[.slice (some ⟨g, 0, none⟩) xs.length c2, .bool true]) (by simp [results, Tryd.results76]) rfl ?_
      exact HE.out

end Go.Proofs.YtldpnhlifgkmiaaDoor
