import Derived.Test.YtooffmmfacdjeaaC9
namespace Go.Proofs.Ytooffmmfacdjeaa
open Go.RowKit
set_option linter.unusedVariables false
set_option linter.unusedSimpArgs false

section
variable {P : Program} (w : World)

theorem run_append_keep (t ty e : TypeId) (i : TypeInfo) (z : Value) (size bytes : Nat) (ht : P.underlying t = some (.slice e)) (hi : P.info? e = some i) (hz : i.zero = some z)
    (hsize : i.size = size) (hby : i.bytes = bytes) (hzs : z.cells.size = size) (hsz : 0 < size) (base : Nat) (v : Value) (n : Nat) (xs : List Value) (hown : w.ownsRow base e size v n xs)
    (ad : Addr) (m c : Nat) (news : List Value) (hl : news.length = m * size) (hc : ∀ j u, news[j]? = some u → w.cell? (ad.add j) = some u) (h1 : ∀ u ∈ news, u.oneCell' = true) (h63 : n + m ≤ maxLen) (hbytes : (n + m) * bytes ≤ 140737488355328) (hbase : base ≤ w.heap.size) :
    ∃ v' w', (Builtin.append_ #[t, t] ty #[v, .slice (some ad) m c]).run P w = .ok v' w' ∧ w'.ownsRow base e size v' (n + m) (xs ++ news) ∧ w.grownBy w' v.ownBlock ∧ (v'.ownBlock = v.ownBlock ∨ v'.ownBlock = some w.heap.size) ∧
      ∀ g, v.ownBlock = some g → ∀ j u, xs[j]? = some u → w'.cell? ⟨g, j, none⟩ = some u := by
  obtain ⟨v', w', hr, k1, k2, k3⟩ := run_append_any (P := P) w t ty e i z size bytes ht hi hz hsize hby hzs hsz base v n xs hown (some ad) m c news (.inr ⟨ad, rfl, hl, hc, h1⟩) h63 hbytes hbase
  refine ⟨v', w', hr, k1, k2, k3, fun g hg j u hj => ?_⟩
  have hs : Src P i.size t (.slice (some ad) m c) m news w := Src.ofSlice w ht ad m c news (by rw [hsize]; exact hl) hc h1
  have hsm : n + m ≤ 9223372036854775807 := by simp only [maxLen] at h63; omega
  have ea : (⟨g, 0, none⟩ : Addr).add j = ⟨g, j, none⟩ := by cases j <;> simp [Addr.add]
  rcases hown.2 with ⟨rfl, rfl⟩ | ⟨g', cap, cur, rfl, hbg, hgc, hnc, hcm, hcs, htake⟩
  · simp [Value.ownBlock] at hg
  · simp only [Value.ownBlock] at hg
    injection hg with hg
    subst hg
    by_cases hroom : n + m ≤ cap
    · have hr2 := run_append_room_src (P := P) w t t ty e i ht hi g' 0 n cap (.slice (some ad) m c) m news hs hroom (fun q hq => by
        have : n * i.size + q < cur.size := by rw [hcs, hsize]; have := Nat.mul_le_mul_right size hroom; rw [Nat.add_mul] at this; omega
        simp [World.cell?, hgc, Nat.zero_add, this]) (fun q hq => by simp [World.frozen?, hgc])
      rw [hr2] at hr
      injection hr with e1 e2
      have := k1.cells (g := g') (by rw [← e1]; rfl) j u (by rw [List.getElem?_append_left (List.getElem?_eq_some_iff.1 hj).1]; exact hj)
      rwa [ea] at this
    · have hfo : (Builtin.firstCells i.size n (.slice (some ⟨g', 0, none⟩) n cap)).run P w.drew = .ok xs.toArray w.drew := run_firstCells_some w.drew i.size n ⟨g', 0, none⟩ n cap xs (by rw [hsize]; exact hown.1) (by simpa using hown.cells (g := g') rfl)
      have hr2 := run_append_grow_src (P := P) w t t ty e i z ht hi hz (some ⟨g', 0, none⟩) n cap xs hfo (.slice (some ad) m c) m news hs (by omega) (by omega) (by rw [hby]; exact growslice_fits (by omega) (by omega))
      rw [hr2] at hr
      injection hr with e1 e2
      have hc0 := hown.cells (g := g') rfl j u hj
      rw [ea] at hc0
      rw [← e2, World.cell?_alloc_past (w := w.drew) _ _ _ (World.block_lt_of_cell? w ⟨g', j, none⟩ hc0)]; exact hc0

theorem wpList_append_keep {ops : Array Oper} {rest : List Oper} {o : Oper} {a : Act} {Q : Exit → Act → World → Prop} (hgd : o.guard = none) (s x : Operand) (t : TypeId)
    (ho : o.op = .call { callee := .builtin .append, args := #[s, x], argTypes := #[t, t] }) (base : Nat)
    (e : TypeId) (i : TypeInfo) (z : Value) (size bytes : Nat) (ht : P.underlying t = some (.slice e)) (hi : P.info? e = some i) (hz : i.zero = some z)
    (hsize : i.size = size) (hby : i.bytes = bytes) (hzs : z.cells.size = size) (hsz : 0 < size) (v : Value) (n : Nat) (xs : List Value) (hs : a.eval s = v) (hown : w.ownsRow base e size v n xs)
    (ad : Addr) (m c : Nat) (news : List Value) (hx : a.eval x = .slice (some ad) m c) (hl : news.length = m * size) (hc : ∀ j u, news[j]? = some u → w.cell? (ad.add j) = some u) (h1 : ∀ u ∈ news, u.oneCell' = true)
    (h63 : n + m ≤ maxLen) (hbytes : (n + m) * bytes ≤ 140737488355328) (hbase : base ≤ w.heap.size)
    (h : ∀ v' w', w'.ownsRow base e size v' (n + m) (xs ++ news) → w.grownBy w' v.ownBlock → (v'.ownBlock = v.ownBlock ∨ v'.ownBlock = some w.heap.size) → (∀ g, v.ownBlock = some g → ∀ j u, xs[j]? = some u → w'.cell? ⟨g, j, none⟩ = some u) → wpList P ops Q rest (a.put o.dst v') w') : wpList P ops Q (o :: rest) a w := by
  refine wpList_plain hgd fun K hK => ?_
  obtain ⟨v', w', hr, h2, h3, h4, h5⟩ := run_append_keep (P := P) w t o.type e i z size bytes ht hi hz hsize hby hzs hsz base v n xs hown ad m c news hl hc h1 h63 hbytes hbase
  unfold Oper.wp execOp
  simp only [ho, resolve, invoke, builtin, Sem.run_bind, Sem.run_pure, Result.andThen_ok, List.map_toArray, List.map_cons, List.map_nil, hs, hx, hr]
  exact hK _ _ (h v' w' h2 h3 h4 h5)
end

def n258 : Nd := ⟨2, 258, ⟨#[]⟩⟩
theorem fit_258 : n258.Fit := fit_leaf 2 258 _ (by omega) (by omega) (by decide)
theorem may_258 : may n258 .nil = true := by simp [may, mayT, mayB, mayF, formedB, kidsOf, flen, n258, empB]
theorem put_258 : putB n258 .nil = [2, 0, 0, 1, 2] := by rw [putB, if_pos may_258]; decide
theorem one_258 : oneB [2, 0, 0, 1, 2] = .ok (n258, .nil) := rfl
theorem one_none : oneB [] = .error 1 := rfl
theorem take_258 : tk 16 0 [2, 0, 0, 1, 2, 7] = .ok (n258, .nil, 1, [7]) := rfl
theorem rep_258 (w : World) (B : Nat) (A : Option Addr) (cap : Nat) : RepV w B n258 .nil (.agg #[.int .i64 2, .int .i64 258, .string ⟨#[]⟩, .slice A 0 cap]) := ⟨fit_258, A, cap, 0, 0, rfl, Nat.zero_le _, .inl rfl, trivial⟩

theorem same_258 (A A' : Option Addr) (cap cap' : Nat) (w : World) :
    Calls Try.prog 18 #[.agg #[.int .i64 2, .int .i64 258, .string ⟨#[]⟩, .slice A 0 cap], .agg #[.int .i64 2, .int .i64 258, .string ⟨#[]⟩, .slice A' 0 cap']] w fun e w' => e = .returned (.bool true) ∧ Below w.heap.size w w' := by
  have := refSame_any n258 .nil n258 .nil _ _ w.heap.size w (rep_258 w _ A cap) (rep_258 w _ A' cap') (Nat.le_refl _) (by simp [flen, kidsOf, n258]) (by simp [flen, kidsOf, n258]) trivial trivial
  rw [ordT_self] at this
  exact this

set_option maxRecDepth 100000 in
set_option maxHeartbeats 2000000 in
theorem known2_any (w : World) : Calls Try.prog 11 #[] w fun e w' => e = .returned (.bool true) ∧ Below w.heap.size w w' := by
  obtain ⟨i5, hi, hz0, hz1, hz2⟩ := info_has Try.infoByte
  go_enter Try.func11, Try.ntmps11
  go_wp2_with fail
  refine (refN_any _ _).mono ?_
  rintro e w1 ⟨rfl, ho1⟩
  go_wp2_with fail
  refine (codePut_any n258 .nil _ w1 (rep_258 _ _ _ _)).mono ?_
  rintro e w2 ⟨u, rfl, hown, ho2⟩
  rw [put_258] at hown
  obtain ⟨A, cap, rfl, hby, hl, hc, hq⟩ := hown.at
  simp only [List.length_cons, List.length_nil, Nat.zero_add, Nat.reduceAdd] at hl ⊢
  have HO : Hid (OwnB w2 w1.heap.size (.slice A 5 cap) [2, 0, 0, 1, 2]) := hown
  have HB : Hid (ByAt w2 w2.heap.size A [2, 0, 0, 1, 2]) := hby
  have HO2 : Hid (OwnB w2 w1.heap.size (.slice A 5 cap) [2, 0, 0, 1, 2]) := hown
  have hb2 : Below w.heap.size w w2 := ho1.trans (ho2.mono ho1.size)
  clear hown hby
  go_wp2_with fail
  refine (codeOne_any w2 A cap [2, 0, 0, 1, 2] HB.out hl hc).mono ?_
  rintro e w3 ⟨_, h2⟩
  obtain ⟨v, rfl, ho3, _, A3, cap3, _, _, rfl, _⟩ := h2 n258 .nil one_258
  clear h2
  simp only [n258, flen]
  go_wp2_with fail
  refine (codeOne_any _ none 0 [] (.inl rfl) (by simp) (by unfold maxLen; omega)).mono ?_
  rintro e w4 ⟨h1, _⟩
  obtain ⟨rfl, ho4⟩ := h1 1 one_none
  clear h1
  have hs3 := ho3.size
  have hs4 := ho4.size
  simp only [World.heap_size_alloc'] at hs4
  have hb34 : Below w2.heap.size w2 w4 := ho3.trans (Below.trans (Below.alloc (Below.refl _ _) (by omega) _) (ho4.mono (by simp; omega)))
  have x2 : Box4 w4 w3.heap.size (.int .i64 2) (.int .i64 258) (.string ⟨#[]⟩) (.slice A3 0 cap3) := (Box4.new w3 _ _ _ _ _).below ho4
  have X2 : Hid (Box4 w4 w3.heap.size (.int .i64 2) (.int .i64 258) (.string ⟨#[]⟩) (.slice A3 0 cap3)) := x2
  have HO4 : Hid (OwnB w4 w1.heap.size (.slice A 5 cap) [2, 0, 0, 1, 2]) := HO.out.below hb34
  have hs12 := ho2.size
  clear x2 HB HO
  go_wp2_with (at_builtin; refine wpList_append_keep _ rfl _ _ 32 rfl w1.heap.size 5 i5 (.int .u8 0) 1 1 Try.underlying32 hi hz0 hz1 hz2 rfl (by decide) (.slice A 5 cap) 5 (Lib.byteCells [2, 0, 0, 1, 2]) rfl ?own ⟨w4.heap.size + 1, 0, none⟩ 1 1 [.int .u8 7] rfl rfl ?src ?one ?c3 ?c4 ?c5 ?_)
  case own => exact (World.ownsRow.alloc HO4.out _).alloc _
  case src => exact World.news_of_block (t := 5) (fr := (0, 0)) (by have := heap_alloc_new (w4.alloc (.cells #[.int .i64 0, .int .i64 0, .string ⟨#[]⟩, .slice none 0 0] 30)) (.cells #[.int .u8 7] 5); simpa using this)
  case one => simp [Value.oneCell']
  case c3 => unfold maxLen; omega
  case c4 => omega
  case c5 => simp; omega
  intro v6 w6 hown6 hgrow6 hat6 hkeep
  have o6 : OwnB w6 w1.heap.size v6 [2, 0, 0, 1, 2, 7] := hown6
  have hs6 := hgrow6.size
  simp only [World.heap_size_alloc'] at hs6
  have hx6 : Box4 w6 w3.heap.size (.int .i64 2) (.int .i64 258) (.string ⟨#[]⟩) (.slice A3 0 cap3) := by
    refine Box4.of (w := w4) X2.out ?_ (by omega)
    rw [hgrow6.block w3.heap.size (by simp; omega) (fun e => by have := (HO4.out.base _ e.symm).2; have := (OwnB.base (w := w2) (v := .slice A 5 cap) (xs := [2, 0, 0, 1, 2]) (B := w1.heap.size) HO2.out _ e.symm).2; omega), Below.heap_alloc _ _ _ (by simp; omega), Below.heap_alloc _ _ _ (by omega)]
  have hk6 : ByAt w6 w6.heap.size A [2, 0, 0, 1, 2] := by
    rcases HO4.out.at with ⟨A', cap', e1, hb', _, _, hq'⟩
    injection e1 with e1 _ e2
    subst e1 e2
    rcases hb' with h | ⟨g, o, rfl, hg, hcc⟩
    · simp at h
    · obtain ⟨o', e3⟩ := hq' g rfl
      rcases HO4.out.2 with ⟨h1, h2⟩ | ⟨g', cap', cur, h1, _⟩
      · injection h1 with h1; cases h1
      · injection h1 with h1 _ h3
        injection h1 with h1
        injection h1 with h1 h4
        subst h1 h4
        refine .inr ⟨g, 0, rfl, by omega, fun j hj => ?_⟩
        rw [Nat.zero_add, hkeep g rfl j (.int .u8 (([2, 0, 0, 1, 2] : List UInt8).getD j 0).toNat) ?_]
        simp at hj
        have : j = 0 ∨ j = 1 ∨ j = 2 ∨ j = 3 ∨ j = 4 := by omega
        rcases this with rfl | rfl | rfl | rfl | rfl <;> rfl
  have hb6 : Below w.heap.size w w6 := by
    have h4 : Below w.heap.size w w4 := hb2.trans (hb34.mono hb2.size)
    have h1s := ho1.size
    exact Below.grown ((h4.alloc (by have := h4.size; omega) _).alloc (by have := h4.size; simp; omega) _) hgrow6 (by have := h4.size; simp; omega) (fun k hk => by have := (HO4.out.base k hk).1; omega)
  obtain ⟨A6, cap6, rfl, hby6, hl6, hc6, _⟩ := o6.at
  simp only [List.length_cons, List.length_nil, Nat.zero_add, Nat.reduceAdd] at hl6 ⊢
  have HK6 : Hid (ByAt w6 w6.heap.size A [2, 0, 0, 1, 2]) := hk6
  have HX6 : Hid (Box4 w6 w3.heap.size (.int .i64 2) (.int .i64 258) (.string ⟨#[]⟩) (.slice A3 0 cap3)) := hx6
  clear hown6 hgrow6 hat6 hkeep o6 hk6 hx6 X2 HO4 HO2
  go_wp2_with fail
  refine (take_any w6 A6 cap6 [2, 0, 0, 1, 2, 7] hby6 hl6 hc6).mono ?_
  rintro e w7 ⟨_, h2⟩
  obtain ⟨v, rfl, ho7, _, A7, cap7, _, _, rfl, _⟩ := h2 n258 .nil 1 [7] take_258
  clear h2 hby6
  simp only [n258, flen, List.length_cons, List.length_nil, Nat.zero_add, Nat.reduceAdd, Nat.reduceSub]
  have E1 : Hid (∀ w', Below (w7.heap.size + 1) (w7.alloc (.cells #[.int .i64 2, .int .i64 258, .string ⟨#[]⟩, .slice A7 0 cap7] 30)) w' → Box4 w' w3.heap.size (.int .i64 2) (.int .i64 258) (.string ⟨#[]⟩) (.slice A3 0 cap3)) := fun w' hb => ((HX6.out.below ho7).alloc _).below (by simpa using hb)
  have E2 : Hid (∀ w', Below (w7.heap.size + 1) (w7.alloc (.cells #[.int .i64 2, .int .i64 258, .string ⟨#[]⟩, .slice A7 0 cap7] 30)) w' → Box4 w' w7.heap.size (.int .i64 2) (.int .i64 258) (.string ⟨#[]⟩) (.slice A7 0 cap7)) := fun w' hb => (Box4.new w7 _ _ _ _ _).below (by simpa using hb)
  have E3 : Hid (∀ w', Below (w7.heap.size + 1) (w7.alloc (.cells #[.int .i64 2, .int .i64 258, .string ⟨#[]⟩, .slice A7 0 cap7] 30)) w' → (convert 32 9 (.slice A 5 cap)).run Try.prog w' = .ok (.string ⟨#[2, 0, 0, 1, 2]⟩) w') := fun w' hb => conv_bytes w' w6.heap.size A [2, 0, 0, 1, 2] cap ((HK6.out.below ho7).keep (Nat.le_refl _) (fun b o h => by rw [hb.cell (by have := ho7.size; simp; omega)]; exact World.cell?_alloc_past _ _ _ (by have := ho7.size; omega)))
  have C1 : Hid (∀ w', Below (w7.heap.size + 1) (w7.alloc (.cells #[.int .i64 2, .int .i64 258, .string ⟨#[]⟩, .slice A7 0 cap7] 30)) w' → Calls Try.prog 33 #[.int .i64 258] w' fun e w'' => e = .returned (.agg #[.int .i64 2, .int .i64 258, .string ⟨#[]⟩, .slice none 0 0]) ∧ Below (w7.heap.size + 1) (w7.alloc (.cells #[.int .i64 2, .int .i64 258, .string ⟨#[]⟩, .slice A7 0 cap7] 30)) w'') := fun w' hb => (refN_any _ _).mono (fun e w'' h => ⟨h.1, hb.trans (h.2.mono (by have := hb.size; simpa using this))⟩)
  have C2 : Hid (∀ w', Below (w7.heap.size + 1) (w7.alloc (.cells #[.int .i64 2, .int .i64 258, .string ⟨#[]⟩, .slice A7 0 cap7] 30)) w' → Calls Try.prog 18 #[.agg #[.int .i64 2, .int .i64 258, .string ⟨#[]⟩, .slice A3 0 cap3], .agg #[.int .i64 2, .int .i64 258, .string ⟨#[]⟩, .slice none 0 0]] w' fun e w'' => e = .returned (.bool true) ∧ Below (w7.heap.size + 1) (w7.alloc (.cells #[.int .i64 2, .int .i64 258, .string ⟨#[]⟩, .slice A7 0 cap7] 30)) w'') := fun w' hb => (same_258 _ _ _ _ _).mono (fun e w'' h => ⟨h.1, hb.trans (h.2.mono (by have := hb.size; simpa using this))⟩)
  have C3 : Hid (∀ w', Below (w7.heap.size + 1) (w7.alloc (.cells #[.int .i64 2, .int .i64 258, .string ⟨#[]⟩, .slice A7 0 cap7] 30)) w' → Calls Try.prog 18 #[.agg #[.int .i64 2, .int .i64 258, .string ⟨#[]⟩, .slice A7 0 cap7], .agg #[.int .i64 2, .int .i64 258, .string ⟨#[]⟩, .slice A3 0 cap3]] w' fun e w'' => e = .returned (.bool true) ∧ Below (w7.heap.size + 1) (w7.alloc (.cells #[.int .i64 2, .int .i64 258, .string ⟨#[]⟩, .slice A7 0 cap7] 30)) w'') := fun w' hb => (same_258 _ _ _ _ _).mono (fun e w'' h => ⟨h.1, hb.trans (h.2.mono (by have := hb.size; simpa using this))⟩)
  have hb7 : Below w.heap.size w w7 := hb6.trans (ho7.mono hb6.size)
  clear HX6 HK6
  go_wp2_with fail
  go_region_held3 (fun w' => Box4 w' w3.heap.size (.int .i64 2) (.int .i64 258) (.string ⟨#[]⟩) (.slice A3 0 cap3) ∧ Box4 w' w7.heap.size (.int .i64 2) (.int .i64 258) (.string ⟨#[]⟩) (.slice A7 0 cap7) ∧ ((convert 32 9 (.slice A 5 cap)).run Try.prog w' = .ok (.string ⟨#[2, 0, 0, 1, 2]⟩) w') ∧ Below (w7.heap.size + 1) (w7.alloc (.cells #[.int .i64 2, .int .i64 258, .string ⟨#[]⟩, .slice A7 0 cap7] 30)) w')
    (first | exact ⟨E1.out _ (Below.drew (Below.refl _ _)), E2.out _ (Below.drew (Below.refl _ _)), E3.out _ (Below.drew (Below.refl _ _)), Below.drew (Below.refl _ _)⟩ | exact ⟨E1.out _ (by assumption), E2.out _ (by assumption), E3.out _ (by assumption), (by assumption)⟩ | assumption)
    (first
      | (go_at_call 33; refine (C1.out _ ?_).mono ?_; exact (And.right (And.right (And.right (by assumption)))); rintro e w8 ⟨rfl, ho8⟩)
      | (go_at_call_of 18 (Value.slice A7 0 cap7); refine (C3.out _ ?_).mono ?_; exact (And.right (And.right (And.right (by assumption)))); rintro e w10 ⟨rfl, ho10⟩)
      | (go_at_call 18; refine (C2.out _ ?_).mono ?_; exact (And.right (And.right (And.right (by assumption)))); rintro e w9 ⟨rfl, ho9⟩))
  all_goals go_wp2_with fail
  all_goals go_ret
  all_goals exact ⟨by first | rfl | simp, (hb7.alloc hb7.size _).trans (ho10.mono (by have := hb7.size; omega))⟩

end Go.Proofs.Ytooffmmfacdjeaa
