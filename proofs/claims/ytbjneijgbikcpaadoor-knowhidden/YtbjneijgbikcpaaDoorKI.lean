import Derived.Test.YtbjneijgbikcpaaDoorKH
namespace Go.Proofs.YtbjneijgbikcpaaDoor
open Go.RowKit
set_option linter.unusedVariables false
set_option linter.unusedSimpArgs false

theorem mayT_k1 (k : Int) (hk : k = 3 ∨ k = 4) (t : Nd × Fo) (deep c : Int) (hd : deep ≤ 16) (hc : c + 1 ≤ 64) (h : (mayT t.1 t.2 (deep + 1) (c + 1)).1 = true) : mayT (kid1 k t).1 (kid1 k t).2 deep c = (true, (mayT t.1 t.2 (deep + 1) (c + 1)).2) := by
  have hB : mayB (kid1 k t).1 (flen (kid1 k t).2) deep c = true := by
    rcases hk with rfl | rfl <;> simp [mayB, formedB, kidsOf, kid1, flen, emp_list', hd, hc]
  rw [mayT_of _ _ _ _ hB]
  show mayF (.node 0 0 t.1 t.2 .nil) _ _ = _
  rw [mayF_node, if_pos h, mayF]

theorem mayT_k2 (k : Int) (hk : k = 5 ∨ k = 6 ∨ k = 7) (t u : Nd × Fo) (deep c c' : Int) (hd : deep ≤ 16) (hc : c + 1 ≤ 64) (h : mayT t.1 t.2 (deep + 1) (c + 1) = (true, c')) (h2 : (mayT u.1 u.2 (deep + 1) c').1 = true) : mayT (kid2 k t u).1 (kid2 k t u).2 deep c = (true, (mayT u.1 u.2 (deep + 1) c').2) := by
  have hB : mayB (kid2 k t u).1 (flen (kid2 k t u).2) deep c = true := by
    rcases hk with rfl | rfl | rfl <;> simp [mayB, formedB, kidsOf, kid2, flen, emp_list', hd, hc]
  rw [mayT_of _ _ _ _ hB]
  show mayF (.node 0 0 t.1 t.2 (.node 0 0 u.1 u.2 .nil)) _ _ = _
  rw [mayF_node, h, if_pos rfl, mayF_node, if_pos h2, mayF]

theorem formed_sec (x : Int) (h : 0 ≤ x ∧ x ≤ 1073741824) : formedB 2 x ByteArray.empty 0 = true := by simp only [formedB]; simp only [kidsOf, emp_list']; simp; omega

theorem mayT_sec (x : Int) (h : 0 ≤ x ∧ x ≤ 1073741824) (deep c : Int) (hd : deep ≤ 16) (hc : c + 1 ≤ 64) : mayT (secN x).1 (secN x).2 deep c = (true, c + 1) := mayT_leaf _ _ _ (formed_sec x h) hc hd

theorem mayT_atY (b : UInt8) (deep c : Int) (hd : deep ≤ 16) (hc : c + 1 ≤ 64) : mayT (atY b).1 (atY b).2 deep c = (true, c + 1) := by
  refine mayT_leaf _ _ _ ?_ hc hd
  have hs : (⟨#[b]⟩ : ByteArray).size = 1 := rfl
  simp [formedB, kidsOf, atY, hs]

theorem may_sec (x : Int) (h : 0 ≤ x ∧ x ≤ 1073741824) : may (secN x).1 (secN x).2 = true := by
  unfold may; rw [mayT_sec x h 1 0 (by omega) (by omega)]

theorem may_told (x : Int) (h : 0 ≤ x ∧ x ≤ 1073741824) (k : Int) (hk : k = 5 ∨ k = 6) (b : UInt8) : may (kid2 k (secN x) (atY b)).1 (kid2 k (secN x) (atY b)).2 = true := by
  unfold may
  rw [mayT_k2 k (by omega) (secN x) (atY b) 1 0 2 (by omega) (by omega) (mayT_sec x h _ _ (by omega) (by omega)) (by rw [mayT_atY b _ _ (by omega) (by omega)])]

theorem may_hides (x : Int) (h : 0 ≤ x ∧ x ≤ 1073741824) (ns : List Int) : ∀ t ∈ hides (secN x) (tapeT ns 4 0).1, may t.1 t.2 = true := by
  intro t ht
  simp only [hides, List.mem_cons, List.mem_nil_iff, or_false] at ht
  rcases ht with rfl | rfl | rfl | rfl | rfl
  · unfold may; rw [mayT_k1 3 (by omega) (secN x) 1 0 (by omega) (by omega) (by rw [mayT_sec x h _ _ (by omega) (by omega)])]
  · unfold may; rw [mayT_k1 4 (by omega) (secN x) 1 0 (by omega) (by omega) (by rw [mayT_sec x h _ _ (by omega) (by omega)])]
  · unfold may; rw [mayT_k2 5 (by omega) (secN x) _ 1 0 2 (by omega) (by omega) (mayT_sec x h _ _ (by omega) (by omega)) (tape_may ns 4 0 (1 + 1) 2 (by decide) (by decide)).1]
  · exact may_told x h 6 (by omega) 120
  · unfold may
    have e := mayT_k2 7 (by omega) (secN x) (tapeT ns 4 0).1 (1 + 1) (0 + 1) 3 (by omega) (by omega) (mayT_sec x h _ _ (by omega) (by omega)) (tape_may ns 4 0 (1 + 1 + 1) 3 (by decide) (by decide)).1
    rw [mayT_k1 3 (by omega) _ 1 0 (by omega) (by omega) (by rw [e])]

/-- The row of what is told of the secret. -/
def HidRow (w : World) (x : Int) (o : Nd × Fo) (v : Value) : Prop := ∃ (g : Nat) (hs : List Kd), v = .slice (some ⟨g, 0, none⟩) 5 5 ∧ hs.length = 5 ∧ RowT w g hs ∧ tms hs = hides (secN x) o

/-- Four cells of a block. -/
def Cell4 (w : World) (b j : Nat) (v0 v1 v2 v3 : Value) : Prop := w.cell? ⟨b, j, none⟩ = some v0 ∧ w.cell? ⟨b, j + 1, none⟩ = some v1 ∧ w.cell? ⟨b, j + 2, none⟩ = some v2 ∧ w.cell? ⟨b, j + 3, none⟩ = some v3
theorem Cell4.below {w w' : World} {b j : Nat} {v0 v1 v2 v3 : Value} (h : Cell4 w b j v0 v1 v2 v3) (hb : Below w.heap.size w w') (hlt : b < w.heap.size) : Cell4 w' b j v0 v1 v2 v3 := ⟨(hb.cell hlt).trans h.1, (hb.cell hlt).trans h.2.1, (hb.cell hlt).trans h.2.2.1, (hb.cell hlt).trans h.2.2.2⟩

abbrev Sec4 (w : World) (b j : Nat) (x : Int) : Prop := Cell4 w b j (.int .i64 2) (.int .i64 x) (.string ⟨#[]⟩) (.slice none 0 0)

theorem repG_one {w : World} {S : Nat → Prop} {b j : Nat} {a : Nd} {l r : Fo} {A : Option Addr} {cap b' o' : Nat} (hb : S b) (hf : a.Fit) (hc : Cell4 w b j (.int .i64 a.kind) (.int .i64 a.n) (.string a.s) (.slice A (flen l) cap)) (hn : flen l ≤ 9223372036854775807 ∧ flen l ≤ cap) (hA : flen l = 0 ∨ A = some ⟨b', o', none⟩) (hl : RepG w S l b' o') (hr : RepG w S r b (j + 4)) : RepG w S (.node 0 0 a l r) b j :=
  ⟨hb, hf, hc.1, hc.2.1, hc.2.2.1, ⟨A, cap, b', o', hc.2.2.2, hn, hA, hl⟩, hr⟩

theorem fit_sec (x : Int) (h : 0 ≤ x ∧ x ≤ 1073741824) : (secN x).1.Fit := ⟨by simp [secN], by simp [secN], by simp [secN]; omega, by simp [secN]; omega, empty_small⟩
theorem fit_k (k : Int) (h : 0 ≤ k ∧ k ≤ 100) : Nd.Fit ⟨k, 0, ByteArray.empty⟩ := fit_kind k h

theorem repG_sec {w : World} {S : Nat → Prop} {b j : Nat} {x : Int} (h : 0 ≤ x ∧ x ≤ 1073741824) {r : Fo} (hb : S b) (hc : Sec4 w b j x) (hr : RepG w S r b (j + 4)) : RepG w S (.node 0 0 (secN x).1 (secN x).2 r) b j :=
  repG_one (A := none) (cap := 0) (b' := 0) (o' := 0) hb (fit_sec x h) hc (by simp [secN, flen]) (.inl rfl) trivial hr

theorem repG_kd {w : World} {S : Nat → Prop} {b j : Nat} {o : Kd} {r : Fo} (hb : S b) (hk : o.Ok w S) (hc : Cell4 w b j (.int .i64 o.a.kind) (.int .i64 o.a.n) (.string o.a.s) (.slice o.A (flen o.l) o.cap)) (hr : RepG w S r b (j + 4)) : RepG w S (.node 0 0 o.a o.l r) b j :=
  repG_one hb hk.1 hc hk.2.1 hk.2.2.1 hk.2.2.2 hr

theorem hid_row {w : World} {x : Int} {ns : List Int} (hx : 0 ≤ x ∧ x ≤ 1073741824) {g b1 b2 b3 b4 b5 b6 : Nat} {o1 o2 : Kd} (e1 : o1.a = (tapeT ns 4 0).1.1 ∧ o1.l = (tapeT ns 4 0).1.2) (e2 : o2.a = (tapeT ns 4 0).1.1 ∧ o2.l = (tapeT ns 4 0).1.2)
    (k1 : o1.Ok w (fun b => b < w.heap.size)) (k2 : o2.Ok w (fun b => b < w.heap.size)) (lg : g < w.heap.size) (l1 : b1 < w.heap.size) (l2 : b2 < w.heap.size) (l3 : b3 < w.heap.size) (l4 : b4 < w.heap.size) (l5 : b5 < w.heap.size) (l6 : b6 < w.heap.size)
    (c1 : Sec4 w b1 0 x) (c2 : Sec4 w b2 0 x) (c3 : Sec4 w b3 0 x) (d3 : Cell4 w b3 4 (.int .i64 o1.a.kind) (.int .i64 o1.a.n) (.string o1.a.s) (.slice o1.A (flen o1.l) o1.cap))
    (c4 : Sec4 w b4 0 x) (d4 : Cell4 w b4 4 (.int .i64 1) (.int .i64 0) (.string ⟨#[120]⟩) (.slice none 0 0))
    (c5 : Sec4 w b5 0 x) (d5 : Cell4 w b5 4 (.int .i64 o2.a.kind) (.int .i64 o2.a.n) (.string o2.a.s) (.slice o2.A (flen o2.l) o2.cap))
    (c6 : Cell4 w b6 0 (.int .i64 7) (.int .i64 0) (.string ⟨#[]⟩) (.slice (some ⟨b5, 0, none⟩) 2 2))
    (hg : ∀ t, t < 20 → w.cell? ⟨g, t, none⟩ = ([.int .i64 3, .int .i64 0, .string ⟨#[]⟩, .slice (some ⟨b1, 0, none⟩) 1 1, .int .i64 4, .int .i64 0, .string ⟨#[]⟩, .slice (some ⟨b2, 0, none⟩) 1 1, .int .i64 5, .int .i64 0, .string ⟨#[]⟩, .slice (some ⟨b3, 0, none⟩) 2 2, .int .i64 6, .int .i64 0, .string ⟨#[]⟩, .slice (some ⟨b4, 0, none⟩) 2 2, .int .i64 3, .int .i64 0, .string ⟨#[]⟩, .slice (some ⟨b6, 0, none⟩) 1 1] : List Value)[t]?) :
    HidRow w x (tapeT ns 4 0).1 (.slice (some ⟨g, 0, none⟩) 5 5) := by
  have hm := may_hides x hx ns
  have fx : (atY 120).1.Fit := fit_atom _ (by decide)
  have r3 : RepG w (fun b => b < w.heap.size) (kid2 5 (secN x) (tapeT ns 4 0).1).2 b3 0 := by
    have h := repG_sec (w := w) (S := fun b => b < w.heap.size) (b := b3) (j := 0) hx l3 c3 (repG_kd (S := fun b => b < w.heap.size) (b := b3) (o := o1) (r := .nil) l3 k1 d3 trivial)
    rw [e1.1, e1.2] at h; exact h
  have r5 : RepG w (fun b => b < w.heap.size) (kid2 7 (secN x) (tapeT ns 4 0).1).2 b5 0 := by
    have h := repG_sec (w := w) (S := fun b => b < w.heap.size) (b := b5) (j := 0) hx l5 c5 (repG_kd (S := fun b => b < w.heap.size) (b := b5) (o := o2) (r := .nil) l5 k2 d5 trivial)
    rw [e2.1, e2.2] at h; exact h
  have r4 : RepG w (fun b => b < w.heap.size) (kid2 6 (secN x) (atY 120)).2 b4 0 :=
    repG_sec (w := w) hx l4 c4 (repG_one (A := none) (cap := 0) (b' := 0) (o' := 0) l4 fx d4 (by simp [atY, flen]) (.inl rfl) trivial trivial)
  have r6 : RepG w (fun b => b < w.heap.size) (kid1 3 (kid2 7 (secN x) (tapeT ns 4 0).1)).2 b6 0 :=
    repG_one (A := some ⟨b5, 0, none⟩) (cap := 2) (b' := b5) (o' := 0) l6 (fit_k 7 (by omega)) c6 (by simp [kid2, flen]) (.inr rfl) r5 trivial
  have q1 : RepG w (fun b => b < w.heap.size) (kid1 3 (secN x)).2 b1 0 := repG_sec (w := w) hx l1 c1 trivial
  have q2 : RepG w (fun b => b < w.heap.size) (kid1 4 (secN x)).2 b2 0 := repG_sec (w := w) hx l2 c2 trivial
  refine ⟨g, [⟨0, 0, (kid1 3 (secN x)).1, (kid1 3 (secN x)).2, some ⟨b1, 0, none⟩, 1, b1, 0⟩, ⟨0, 0, (kid1 4 (secN x)).1, (kid1 4 (secN x)).2, some ⟨b2, 0, none⟩, 1, b2, 0⟩, ⟨0, 0, (kid2 5 (secN x) (tapeT ns 4 0).1).1, (kid2 5 (secN x) (tapeT ns 4 0).1).2, some ⟨b3, 0, none⟩, 2, b3, 0⟩, ⟨0, 0, (kid2 6 (secN x) (atY 120)).1, (kid2 6 (secN x) (atY 120)).2, some ⟨b4, 0, none⟩, 2, b4, 0⟩, ⟨0, 0, (kid1 3 (kid2 7 (secN x) (tapeT ns 4 0).1)).1, (kid1 3 (kid2 7 (secN x) (tapeT ns 4 0).1)).2, some ⟨b6, 0, none⟩, 1, b6, 0⟩], rfl, rfl, ⟨lg, fun t ht => hg t (by simpa using ht), fun k hk => ?_⟩, rfl⟩
  simp only [List.mem_cons, List.mem_nil_iff, or_false] at hk
  rcases hk with rfl | rfl | rfl | rfl | rfl
  · exact ⟨⟨fit_k 3 (by omega), by simp [kid1, flen], .inr rfl, q1⟩, may_ar _ _ (hm _ (by simp [hides]))⟩
  · exact ⟨⟨fit_k 4 (by omega), by simp [kid1, flen], .inr rfl, q2⟩, may_ar _ _ (hm _ (by simp [hides]))⟩
  · exact ⟨⟨fit_k 5 (by omega), by simp [kid2, flen], .inr rfl, r3⟩, may_ar _ _ (hm _ (by simp [hides]))⟩
  · exact ⟨⟨fit_k 6 (by omega), by simp [kid2, flen], .inr rfl, r4⟩, may_ar _ _ (hm _ (by simp [hides]))⟩
  · exact ⟨⟨fit_k 3 (by omega), by simp [kid1, flen], .inr rfl, r6⟩, may_ar _ _ (hm _ (by simp [hides]))⟩

theorem stepA {W W' : World} {cs : Array Value} {T : TypeId} (h : Below (W.alloc (.cells cs T)).heap.size (W.alloc (.cells cs T)) W') : Below W.heap.size W W' ∧ W.heap.size < W'.heap.size ∧ ∀ j v, cs[j]? = some v → W'.cell? ⟨W.heap.size, j, none⟩ = some v := by
  have hs := h.size
  rw [World.heap_size_alloc'] at hs
  refine ⟨Below.trans (Below.alloc (Below.refl _ _) (Nat.le_refl _) _) (h.mono (by simp)), by omega, fun j v hv => ?_⟩
  rw [h.cell (by simp)]
  simp [go_sem, hv]

theorem hid_tail {w4 wT2 wO1 wT3 wA wT4 wO2 wT5 wT6 : World} {x : Int} {ns : List Int} {b1 b2 : Nat} {o1 o2 : Kd} {T : TypeId} (hx : 0 ≤ x ∧ x ≤ 1073741824) (h42 : Below w4.heap.size w4 wT2) (l1 : b1 < wT2.heap.size) (l2 : b2 < wT2.heap.size) (c1 : Sec4 wT2 b1 0 x) (c2 : Sec4 wT2 b2 0 x)
    (hoO1 : Below wT2.heap.size wT2 wO1) (e1 : o1.a = (tapeT ns 4 0).1.1 ∧ o1.l = (tapeT ns 4 0).1.2) (hk1 : o1.Ok wO1 (fun b => b < wO1.heap.size))
    (hoT3 : Below (wO1.alloc (.cells #[.int .i64 2, .int .i64 x, .string ⟨#[]⟩, .slice none 0 0, .int .i64 o1.a.kind, .int .i64 o1.a.n, .string o1.a.s, .slice o1.A (flen o1.l) o1.cap] T)).heap.size (wO1.alloc (.cells #[.int .i64 2, .int .i64 x, .string ⟨#[]⟩, .slice none 0 0, .int .i64 o1.a.kind, .int .i64 o1.a.n, .string o1.a.s, .slice o1.A (flen o1.l) o1.cap] T)) wT3)
    (hoA : Below wT3.heap.size wT3 wA)
    (hoT4 : Below (wA.alloc (.cells #[.int .i64 2, .int .i64 x, .string ⟨#[]⟩, .slice none 0 0, .int .i64 1, .int .i64 0, .string ⟨#[120]⟩, .slice none 0 0] T)).heap.size (wA.alloc (.cells #[.int .i64 2, .int .i64 x, .string ⟨#[]⟩, .slice none 0 0, .int .i64 1, .int .i64 0, .string ⟨#[120]⟩, .slice none 0 0] T)) wT4)
    (hoO2 : Below wT4.heap.size wT4 wO2) (e2 : o2.a = (tapeT ns 4 0).1.1 ∧ o2.l = (tapeT ns 4 0).1.2) (hk2 : o2.Ok wO2 (fun b => b < wO2.heap.size))
    (hoT5 : Below (wO2.alloc (.cells #[.int .i64 2, .int .i64 x, .string ⟨#[]⟩, .slice none 0 0, .int .i64 o2.a.kind, .int .i64 o2.a.n, .string o2.a.s, .slice o2.A (flen o2.l) o2.cap] T)).heap.size (wO2.alloc (.cells #[.int .i64 2, .int .i64 x, .string ⟨#[]⟩, .slice none 0 0, .int .i64 o2.a.kind, .int .i64 o2.a.n, .string o2.a.s, .slice o2.A (flen o2.l) o2.cap] T)) wT5)
    (hoT6 : Below (wT5.alloc (.cells #[.int .i64 7, .int .i64 0, .string ⟨#[]⟩, .slice (some ⟨wO2.heap.size, 0, none⟩) 2 2] T)).heap.size (wT5.alloc (.cells #[.int .i64 7, .int .i64 0, .string ⟨#[]⟩, .slice (some ⟨wO2.heap.size, 0, none⟩) 2 2] T)) wT6) :
    HidRow (wT6.alloc (.cells #[.int .i64 3, .int .i64 0, .string ⟨#[]⟩, .slice (some ⟨b1, 0, none⟩) 1 1, .int .i64 4, .int .i64 0, .string ⟨#[]⟩, .slice (some ⟨b2, 0, none⟩) 1 1, .int .i64 5, .int .i64 0, .string ⟨#[]⟩, .slice (some ⟨wO1.heap.size, 0, none⟩) 2 2, .int .i64 6, .int .i64 0, .string ⟨#[]⟩, .slice (some ⟨wA.heap.size, 0, none⟩) 2 2, .int .i64 3, .int .i64 0, .string ⟨#[]⟩, .slice (some ⟨wT5.heap.size, 0, none⟩) 1 1] T)) x (tapeT ns 4 0).1 (.slice (some ⟨wT6.heap.size, 0, none⟩) 5 5) ∧
    Below w4.heap.size w4 (wT6.alloc (.cells #[.int .i64 3, .int .i64 0, .string ⟨#[]⟩, .slice (some ⟨b1, 0, none⟩) 1 1, .int .i64 4, .int .i64 0, .string ⟨#[]⟩, .slice (some ⟨b2, 0, none⟩) 1 1, .int .i64 5, .int .i64 0, .string ⟨#[]⟩, .slice (some ⟨wO1.heap.size, 0, none⟩) 2 2, .int .i64 6, .int .i64 0, .string ⟨#[]⟩, .slice (some ⟨wA.heap.size, 0, none⟩) 2 2, .int .i64 3, .int .i64 0, .string ⟨#[]⟩, .slice (some ⟨wT5.heap.size, 0, none⟩) 1 1] T)) := by
  obtain ⟨s3, n3, k3⟩ := stepA hoT3
  obtain ⟨s4, n4, k4⟩ := stepA hoT4
  obtain ⟨s5, n5, k5⟩ := stepA hoT5
  obtain ⟨s6, n6, k6⟩ := stepA hoT6
  have hcF : ∀ t, t < 20 → (wT6.alloc (.cells #[.int .i64 3, .int .i64 0, .string ⟨#[]⟩, .slice (some ⟨b1, 0, none⟩) 1 1, .int .i64 4, .int .i64 0, .string ⟨#[]⟩, .slice (some ⟨b2, 0, none⟩) 1 1, .int .i64 5, .int .i64 0, .string ⟨#[]⟩, .slice (some ⟨wO1.heap.size, 0, none⟩) 2 2, .int .i64 6, .int .i64 0, .string ⟨#[]⟩, .slice (some ⟨wA.heap.size, 0, none⟩) 2 2, .int .i64 3, .int .i64 0, .string ⟨#[]⟩, .slice (some ⟨wT5.heap.size, 0, none⟩) 1 1] T)).cell? ⟨wT6.heap.size, t, none⟩ = ([.int .i64 3, .int .i64 0, .string ⟨#[]⟩, .slice (some ⟨b1, 0, none⟩) 1 1, .int .i64 4, .int .i64 0, .string ⟨#[]⟩, .slice (some ⟨b2, 0, none⟩) 1 1, .int .i64 5, .int .i64 0, .string ⟨#[]⟩, .slice (some ⟨wO1.heap.size, 0, none⟩) 2 2, .int .i64 6, .int .i64 0, .string ⟨#[]⟩, .slice (some ⟨wA.heap.size, 0, none⟩) 2 2, .int .i64 3, .int .i64 0, .string ⟨#[]⟩, .slice (some ⟨wT5.heap.size, 0, none⟩) 1 1] : List Value)[t]? := fun t _ => by simp [go_sem]
  have f6 : Below wT6.heap.size wT6 (wT6.alloc (.cells #[.int .i64 3, .int .i64 0, .string ⟨#[]⟩, .slice (some ⟨b1, 0, none⟩) 1 1, .int .i64 4, .int .i64 0, .string ⟨#[]⟩, .slice (some ⟨b2, 0, none⟩) 1 1, .int .i64 5, .int .i64 0, .string ⟨#[]⟩, .slice (some ⟨wO1.heap.size, 0, none⟩) 2 2, .int .i64 6, .int .i64 0, .string ⟨#[]⟩, .slice (some ⟨wA.heap.size, 0, none⟩) 2 2, .int .i64 3, .int .i64 0, .string ⟨#[]⟩, .slice (some ⟨wT5.heap.size, 0, none⟩) 1 1] T)) := Below.alloc (Below.refl _ _) (Nat.le_refl _) _
  have lF : wT6.heap.size < (wT6.alloc (.cells #[.int .i64 3, .int .i64 0, .string ⟨#[]⟩, .slice (some ⟨b1, 0, none⟩) 1 1, .int .i64 4, .int .i64 0, .string ⟨#[]⟩, .slice (some ⟨b2, 0, none⟩) 1 1, .int .i64 5, .int .i64 0, .string ⟨#[]⟩, .slice (some ⟨wO1.heap.size, 0, none⟩) 2 2, .int .i64 6, .int .i64 0, .string ⟨#[]⟩, .slice (some ⟨wA.heap.size, 0, none⟩) 2 2, .int .i64 3, .int .i64 0, .string ⟨#[]⟩, .slice (some ⟨wT5.heap.size, 0, none⟩) 1 1] T)).heap.size := by rw [World.heap_size_alloc']; omega
  generalize wT6.alloc (.cells #[.int .i64 3, .int .i64 0, .string ⟨#[]⟩, .slice (some ⟨b1, 0, none⟩) 1 1, .int .i64 4, .int .i64 0, .string ⟨#[]⟩, .slice (some ⟨b2, 0, none⟩) 1 1, .int .i64 5, .int .i64 0, .string ⟨#[]⟩, .slice (some ⟨wO1.heap.size, 0, none⟩) 2 2, .int .i64 6, .int .i64 0, .string ⟨#[]⟩, .slice (some ⟨wA.heap.size, 0, none⟩) 2 2, .int .i64 3, .int .i64 0, .string ⟨#[]⟩, .slice (some ⟨wT5.heap.size, 0, none⟩) 1 1] T) = F at *
  have f5 : Below wT5.heap.size wT5 F := s6.trans (f6.mono s6.size)
  have fO2 : Below wO2.heap.size wO2 F := s5.trans (f5.mono s5.size)
  have f4 : Below wT4.heap.size wT4 F := hoO2.trans (fO2.mono hoO2.size)
  have fA : Below wA.heap.size wA F := s4.trans (f4.mono s4.size)
  have f3 : Below wT3.heap.size wT3 F := hoA.trans (fA.mono hoA.size)
  have fO1 : Below wO1.heap.size wO1 F := s3.trans (f3.mono s3.size)
  have f2 : Below wT2.heap.size wT2 F := hoO1.trans (fO1.mono hoO1.size)
  refine ⟨hid_row (b1 := b1) (b2 := b2) (b3 := wO1.heap.size) (b4 := wA.heap.size) (b5 := wO2.heap.size) (b6 := wT5.heap.size) hx e1 e2 (hk1.below fO1) (hk2.below fO2) lF (Nat.lt_of_lt_of_le l1 f2.size) (Nat.lt_of_lt_of_le l2 f2.size) (Nat.lt_of_lt_of_le n3 f3.size) (Nat.lt_of_lt_of_le n4 f4.size) (Nat.lt_of_lt_of_le n5 f5.size) (Nat.lt_of_lt_of_le n6 f6.size) (c1.below f2 l1) (c2.below f2 l2) ?_ ?_ ?_ ?_ ?_ ?_ ?_ hcF, h42.trans (f2.mono h42.size)⟩
  · exact Cell4.below (w := wT3) ⟨k3 0 _ rfl, k3 1 _ rfl, k3 2 _ rfl, k3 3 _ rfl⟩ f3 n3
  · exact Cell4.below (w := wT3) ⟨k3 4 _ rfl, k3 5 _ rfl, k3 6 _ rfl, k3 7 _ rfl⟩ f3 n3
  · exact Cell4.below (w := wT4) ⟨k4 0 _ rfl, k4 1 _ rfl, k4 2 _ rfl, k4 3 _ rfl⟩ f4 n4
  · exact Cell4.below (w := wT4) ⟨k4 4 _ rfl, k4 5 _ rfl, k4 6 _ rfl, k4 7 _ rfl⟩ f4 n4
  · exact Cell4.below (w := wT5) ⟨k5 0 _ rfl, k5 1 _ rfl, k5 2 _ rfl, k5 3 _ rfl⟩ f5 n5
  · exact Cell4.below (w := wT5) ⟨k5 4 _ rfl, k5 5 _ rfl, k5 6 _ rfl, k5 7 _ rfl⟩ f5 n5
  · exact Cell4.below (w := wT6) ⟨k6 0 _ rfl, k6 1 _ rfl, k6 2 _ rfl, k6 3 _ rfl⟩ f6 n6

end Go.Proofs.YtbjneijgbikcpaaDoor
