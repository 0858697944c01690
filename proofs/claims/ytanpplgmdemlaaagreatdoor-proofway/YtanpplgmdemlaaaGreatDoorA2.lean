import Derived.Test.YtanpplgmdemlaaaGreatDoorA1
import Derived.Test.YtanpplgmdemlaaaGreatDoorWY
namespace Go.Proofs.YtanpplgmdemlaaaGreatDoor
open Go.RowKit
set_option linter.unusedVariables false
set_option linter.unusedSimpArgs false

/-- A row of one's own that begins somewhere within its block. -/
structure OffR (w : World) (base size g off n cap : Nat) (xs : List Value) : Prop where
  len : xs.length = n * size
  le : n ≤ cap
  capm : cap ≤ maxLen
  own : base ≤ g
  lt : g < w.heap.size
  cells : ∀ j u, xs[j]? = some u → w.cell? ⟨g, off + j, none⟩ = some u
  room : ∀ j, j < cap * size → (w.cell? ⟨g, off + j, none⟩).isSome = true ∧ w.frozen? ⟨g, off + j, none⟩ = false

theorem OffR.block {w w' : World} {base size g off n cap : Nat} {xs : List Value} (h : OffR w base size g off n cap xs) (hb : w'.heap[g]? = w.heap[g]?) (hs : w.heap.size ≤ w'.heap.size) : OffR w' base size g off n cap xs := by
  have hc : ∀ j, w'.cell? ⟨g, j, none⟩ = w.cell? ⟨g, j, none⟩ := fun j => World.cell?_of_block hb
  have hf : ∀ j, w'.frozen? ⟨g, j, none⟩ = w.frozen? ⟨g, j, none⟩ := fun j => World.frozen?_of_block hb
  exact ⟨h.len, h.le, h.capm, h.own, by have := h.lt; omega, fun j u hu => by rw [hc]; exact h.cells j u hu, fun j hj => by rw [hc, hf]; exact h.room j hj⟩
theorem OffR.below {w w' : World} {base size g off n cap : Nat} {xs : List Value} (h : OffR w base size g off n cap xs) (hb : Below w.heap.size w w') : OffR w' base size g off n cap xs := h.block (hb.block g h.lt) hb.size

theorem OffR.of {w : World} {base : Nat} {e : TypeId} {size g n cap : Nat} {xs : List Value} (h : w.ownsRow base e size (.slice (some ⟨g, 0, none⟩) n cap) n xs) : OffR w base size g 0 n cap xs := by
  have hlt := h.lt g rfl
  rcases h.2 with ⟨h1, _⟩ | ⟨g', cap', cur, h1, h2, h3, h4, h5, h6, h7⟩
  · cases h1
  · injection h1 with e1 _ e3
    injection e1 with e1
    injection e1 with e1
    subst e1 e3
    refine ⟨h.1, h4, h5, h2, hlt.2, fun j u hu => ?_, fun j hj => ?_⟩
    · have := h.cells (g := g) rfl j u hu
      rwa [show (⟨g, 0, none⟩ : Addr).add j = ⟨g, 0 + j, none⟩ from by cases j <;> simp [Addr.add]] at this
    · rw [Nat.zero_add]
      exact ⟨by simp [World.cell?, h3, h6, hj], by simp [World.frozen?, h3]⟩

theorem OffR.tail {w : World} {base size g off n cap : Nat} {xs : List Value} (h : OffR w base size g off (n + 1) cap xs) (hc : cap ≠ 1) : OffR w base size g (off + size) n (cap - 1) (xs.drop size) := by
  have h1 := h.le
  have h2 := h.capm
  refine ⟨by rw [List.length_drop, h.len, Nat.succ_mul]; omega, by omega, by omega, h.own, h.lt, fun j u hu => ?_, fun j hj => ?_⟩
  · rw [List.getElem?_drop] at hu
    rw [Nat.add_assoc]; exact h.cells _ u hu
  · rw [Nat.add_assoc]
    refine h.room _ ?_
    obtain ⟨c, rfl⟩ : ∃ c, cap = c + 1 := ⟨cap - 1, by omega⟩
    rw [Nat.succ_mul]; simp at hj; omega
theorem OffR.over {w : World} {base size g off : Nat} {xs : List Value} (h : OffR w base size g off 1 1 xs) : OffR w base size g off 0 0 (xs.drop size) := by
  refine ⟨by rw [List.length_drop, h.len]; omega, Nat.le_refl _, Nat.zero_le _, h.own, h.lt, fun j u hu => ?_, fun j hj => by omega⟩
  have : (xs.drop size).length = 0 := by rw [List.length_drop, h.len]; omega
  rw [List.eq_nil_of_length_eq_zero this] at hu
  simp at hu

section
variable {P : Program} (w : World)

theorem run_append_off (t ty e : TypeId) (i : TypeInfo) (z : Value) (size bytes : Nat) (ht : P.underlying t = some (.slice e)) (hi : P.info? e = some i) (hz : i.zero = some z)
    (hsize : i.size = size) (hby : i.bytes = bytes) (hzs : z.cells.size = size) (hsz : 0 < size) (base g off n cap : Nat) (xs : List Value) (hown : OffR w base size g off n cap xs)
    (ad : Addr) (m c : Nat) (news : List Value) (hl : news.length = m * size) (hc : ∀ j u, news[j]? = some u → w.cell? (ad.add j) = some u) (h1 : ∀ u ∈ news, u.oneCell' = true) (h63 : n + m ≤ maxLen) (hbytes : (n + m) * bytes ≤ 140737488355328) (hbase : base ≤ w.heap.size) :
    ∃ g' off' cap' w', (Builtin.append_ #[t, t] ty #[.slice (some ⟨g, off, none⟩) n cap, .slice (some ad) m c]).run P w = .ok (.slice (some ⟨g', off', none⟩) (n + m) cap') w' ∧ OffR w' base size g' off' (n + m) cap' (xs ++ news) ∧ w.grownBy w' (some g) ∧ (g' = g ∨ g' = w.heap.size) := by
  subst hsize hby
  have hs : Src P i.size t (.slice (some ad) m c) m news w := Src.ofSlice w ht ad m c news hl hc h1
  have hlen : (xs ++ news).length = (n + m) * i.size := by rw [List.length_append, hown.len, hl, Nat.add_mul]
  by_cases hroom : n + m ≤ cap
  · have hfit : n * i.size + news.length ≤ cap * i.size := by rw [hl, ← Nat.add_mul]; exact Nat.mul_le_mul_right _ hroom
    have hth : ∀ j, j < news.length → (w.cell? ⟨g, off + n * i.size + j, none⟩).isSome = true ∧ w.frozen? ⟨g, off + n * i.size + j, none⟩ = false := fun j hj => by rw [Nat.add_assoc]; exact hown.room _ (by omega)
    have hr := run_append_room_src (P := P) w t t ty e i ht hi g off n cap (.slice (some ad) m c) m news hs hroom (fun j hj => (hth j hj).1) (fun j hj => (hth j hj).2)
    obtain ⟨o1, o2, o3, o4⟩ := os_setCells g news (off + n * i.size) w
    refine ⟨g, off, cap, _, hr, ⟨hlen, hroom, hown.capm, hown.own, by rw [o4]; exact hown.lt, fun j u hu => ?_, fun j hj => ⟨?_, ?_⟩⟩, ⟨o1, o2, o3, by omega, fun k _ hk => heap_setCells g news _ w k (fun e => hk (by rw [e]))⟩, .inl rfl⟩
    · by_cases hj : j < xs.length
      · rw [List.getElem?_append_left hj] at hu
        rw [World.cell?_setCells_out g news _ w _ (fun _ _ => .inl (by simp; have := hown.len; omega))]
        exact hown.cells j u hu
      · rw [List.getElem?_append_right (by omega)] at hu
        obtain ⟨hj2, e2⟩ := List.getElem?_eq_some_iff.1 hu
        have := World.cell?_setCells_in g news (off + n * i.size) w (fun j hj => (hth j hj).1) (j - xs.length) hj2
        rw [show off + n * i.size + (j - xs.length) = off + j from by have := hown.len; omega] at this
        rw [this, e2]
    · exact World.isSome_setCells g news _ w _ (hown.room j hj).1
    · rw [World.frozen?_setCells]; exact (hown.room j hj).2
  · have hr := run_append_grow (P := P) w t ty e i z ht hi hz ⟨g, off, none⟩ n cap xs hown.len (fun j u hu => by
      rw [show (⟨g, off, none⟩ : Addr).add j = ⟨g, off + j, none⟩ from by cases j <;> simp [Addr.add]]
      exact hown.cells j u hu) ad m c news hl hc (by omega) (by unfold maxLen at h63; omega) (growslice_fits (by omega) hbytes)
    have hge := grownCap_ge w (n + m) cap e
    have hcm : grownCap w (n + m) cap e ≤ maxLen := grownCap_le_maxLen w (n + m) cap e h63
    refine ⟨w.heap.size, 0, _, _, hr, OffR.of (e := e) ⟨hlen, .inr ⟨w.heap.size, _, _, rfl, hbase, heap_alloc_new w.drew _, hge, hcm, ?_, ?_⟩⟩, ⟨rfl, rfl, rfl, by simp, fun k hk _ => Below.heap_alloc w.drew _ _ hk⟩, .inr rfl⟩
    · simp only [Array.size_append, List.size_toArray, size_zeroCells, hzs, hown.len, hl, ← Nat.add_mul]
      congr 1
      omega
    · simp only [Array.toList_append, List.append_assoc]
      rw [← List.append_assoc, ← hlen]
      exact List.take_left

theorem wp_append_off {o : Oper} {a : Act} {K : Act → World → Prop} {Q : Exit → Act → World → Prop} (s x : Operand) (t : TypeId)
    (ho : o.op = .call { callee := .builtin .append, args := #[s, x], argTypes := #[t, t] })
    (e : TypeId) (i : TypeInfo) (z : Value) (size bytes : Nat) (ht : P.underlying t = some (.slice e)) (hi : P.info? e = some i) (hz : i.zero = some z)
    (hsize : i.size = size) (hby : i.bytes = bytes) (hzs : z.cells.size = size) (hsz : 0 < size) (base g off n cap : Nat) (xs : List Value) (hs : a.eval s = .slice (some ⟨g, off, none⟩) n cap) (hown : OffR w base size g off n cap xs)
    (ad : Addr) (m c : Nat) (news : List Value) (hx : a.eval x = .slice (some ad) m c) (hl : news.length = m * size) (hc : ∀ j u, news[j]? = some u → w.cell? (ad.add j) = some u) (h1 : ∀ u ∈ news, u.oneCell' = true) (h63 : n + m ≤ maxLen) (hbytes : (n + m) * bytes ≤ 140737488355328) (hbase : base ≤ w.heap.size)
    (h : ∀ g' off' cap' w', OffR w' base size g' off' (n + m) cap' (xs ++ news) → w.grownBy w' (some g) → (g' = g ∨ g' = w.heap.size) → K (a.put o.dst (.slice (some ⟨g', off', none⟩) (n + m) cap')) w') : o.wp P a w K Q := by
  obtain ⟨g', off', cap', w', hr, h2, h3, h5⟩ := run_append_off (P := P) w t o.type e i z size bytes ht hi hz hsize hby hzs hsz base g off n cap xs hown ad m c news hl hc h1 h63 hbytes hbase
  unfold Oper.wp execOp
  simp only [ho, resolve, invoke, builtin, Sem.run_bind, Sem.run_pure, Result.andThen_ok, List.map_toArray, List.map_cons, List.map_nil, hs, hx, hr]
  exact h g' off' cap' w' h2 h3 h5

theorem wpList_append_off {ops : Array Oper} {rest : List Oper} {o : Oper} {a : Act} {Q : Exit → Act → World → Prop} (hgd : o.guard = none) (s x : Operand) (t : TypeId)
    (ho : o.op = .call { callee := .builtin .append, args := #[s, x], argTypes := #[t, t] })
    (e : TypeId) (i : TypeInfo) (z : Value) (size bytes : Nat) (ht : P.underlying t = some (.slice e)) (hi : P.info? e = some i) (hz : i.zero = some z)
    (hsize : i.size = size) (hby : i.bytes = bytes) (hzs : z.cells.size = size) (hsz : 0 < size) (base g off n cap : Nat) (xs : List Value) (hs : a.eval s = .slice (some ⟨g, off, none⟩) n cap) (hown : OffR w base size g off n cap xs)
    (ad : Addr) (m c : Nat) (news : List Value) (hx : a.eval x = .slice (some ad) m c) (hl : news.length = m * size) (hc : ∀ j u, news[j]? = some u → w.cell? (ad.add j) = some u) (h1 : ∀ u ∈ news, u.oneCell' = true) (h63 : n + m ≤ maxLen) (hbytes : (n + m) * bytes ≤ 140737488355328) (hbase : base ≤ w.heap.size)
    (h : ∀ g' off' cap' w', OffR w' base size g' off' (n + m) cap' (xs ++ news) → w.grownBy w' (some g) → (g' = g ∨ g' = w.heap.size) → wpList P ops Q rest (a.put o.dst (.slice (some ⟨g', off', none⟩) (n + m) cap')) w') : wpList P ops Q (o :: rest) a w :=
  wpList_plain hgd fun _ hK => wp_append_off w s x t ho e i z size bytes ht hi hz hsize hby hzs hsz base g off n cap xs hs hown ad m c news hx hl hc h1 h63 hbytes hbase fun g' off' cap' w' h2 h3 h5 => hK _ _ (h g' off' cap' w' h2 h3 h5)

theorem step_append_off {ops : Array Oper} {o : Oper} {a : Act} {K : Act → World → Prop} {Q : Exit → Act → World → Prop} {E : Prop} (hgd : o.guard = none) (s x : Operand) (t : TypeId)
    (ho : o.op = .call { callee := .builtin .append, args := #[s, x], argTypes := #[t, t] })
    (e : TypeId) (i : TypeInfo) (z : Value) (size bytes : Nat) (ht : P.underlying t = some (.slice e)) (hi : P.info? e = some i) (hz : i.zero = some z)
    (hsize : i.size = size) (hby : i.bytes = bytes) (hzs : z.cells.size = size) (hsz : 0 < size) (base g off n cap : Nat) (xs : List Value) (hs : a.eval s = .slice (some ⟨g, off, none⟩) n cap) (hown : OffR w base size g off n cap xs)
    (ad : Addr) (m c : Nat) (news : List Value) (hx : a.eval x = .slice (some ad) m c) (hl : news.length = m * size) (hc : ∀ j u, news[j]? = some u → w.cell? (ad.add j) = some u) (h1 : ∀ u ∈ news, u.oneCell' = true) (h63 : n + m ≤ maxLen) (hbytes : (n + m) * bytes ≤ 140737488355328) (hbase : base ≤ w.heap.size)
    (h : ∀ g' off' cap' w', OffR w' base size g' off' (n + m) cap' (xs ++ news) → w.grownBy w' (some g) → (g' = g ∨ g' = w.heap.size) → K (a.put o.dst (.slice (some ⟨g', off', none⟩) (n + m) cap')) w') :
    if Region.wanted o (yielded ops a.tmps) = true then Oper.wp P o a w K Q else E := by
  have hw : Region.wanted o (yielded ops a.tmps) = true := by simp [Region.wanted, hgd]
  rw [if_pos hw]
  exact wp_append_off w s x t ho e i z size bytes ht hi hz hsize hby hzs hsz base g off n cap xs hs hown ad m c news hx hl hc h1 h63 hbytes hbase h

end

end Go.Proofs.YtanpplgmdemlaaaGreatDoor
