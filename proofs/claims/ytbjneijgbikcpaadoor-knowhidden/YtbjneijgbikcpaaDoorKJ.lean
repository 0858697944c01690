import Derived.Test.YtbjneijgbikcpaaDoorKI
import Derived.Test.YtbjneijgbikcpaaDoorA1
namespace Go.Proofs.YtbjneijgbikcpaaDoor
open Go.RowKit
set_option linter.unusedVariables false
set_option linter.unusedSimpArgs false

theorem Below.go {a b c : World} (h1 : Below a.heap.size a b) (h2 : Below b.heap.size b c) : Below a.heap.size a c := h1.trans (h2.mono h1.size)
theorem Below.goAlloc {a b : World} {o : Obj} (h : Below a.heap.size a b) : Below a.heap.size a (b.alloc o) := h.alloc h.size _

/-- A block that holds the secret. -/
def SecIn (W : World) (b : Nat) (x : Int) : Prop := b < W.heap.size ∧ Sec4 W b 0 x
theorem SecIn.go {W W' : World} {b : Nat} {x : Int} (h : SecIn W b x) (hb : Below W.heap.size W W') : SecIn W' b x := ⟨Nat.lt_of_lt_of_le h.1 hb.size, h.2.below hb h.1⟩
theorem SecIn.goAlloc {W : World} {b : Nat} {x : Int} {o : Obj} (h : SecIn W b x) : SecIn (W.alloc o) b x := h.go (Below.alloc (Below.refl _ _) (Nat.le_refl _) _)
theorem SecIn.new (W : World) (x : Int) (T : TypeId) : SecIn (W.alloc (.cells #[.int .i64 2, .int .i64 x, .string ⟨#[]⟩, .slice none 0 0] T)) W.heap.size x := by
  obtain ⟨_, n, k⟩ := stepA (W := W) (T := T) (cs := #[.int .i64 2, .int .i64 x, .string ⟨#[]⟩, .slice none 0 0]) (Below.refl _ _)
  exact ⟨n, k 0 _ rfl, k 1 _ rfl, k 2 _ rfl, k 3 _ rfl⟩
theorem SecIn.newS (W : World) (o : Obj) (x : Int) (T : TypeId) : SecIn ((W.alloc o).alloc (.cells #[.int .i64 2, .int .i64 x, .string ⟨#[]⟩, .slice none 0 0] T)) (W.heap.size + 1) x := by
  have h := SecIn.new (W.alloc o) x T
  rwa [show (W.alloc o).heap.size = W.heap.size + 1 by simp] at h
theorem SecIn.src {W : World} {b : Nat} {x : Int} (h : SecIn W b x) : SrcAt W 4 (some ⟨b, 0, none⟩) 1 [.int .i64 2, .int .i64 x, .string ⟨#[]⟩, .slice none 0 0] := by
  refine .inr ⟨_, rfl, rfl, fun j u hu => ?_, fun u hu => ?_⟩
  · have ea : (⟨b, 0, none⟩ : Addr).add j = ⟨b, j, none⟩ := by cases j <;> simp [Addr.add]
    rw [ea]
    match j, hu with
    | 0, hu => injection hu with hu; rw [← hu]; exact h.2.1
    | 1, hu => injection hu with hu; rw [← hu]; exact h.2.2.1
    | 2, hu => injection hu with hu; rw [← hu]; exact h.2.2.2.1
    | 3, hu => injection hu with hu; rw [← hu]; exact h.2.2.2.2
    | n + 4, hu => simp at hu
  · simp only [List.mem_cons, List.mem_nil_iff, or_false] at hu
    rcases hu with rfl | rfl | rfl | rfl <;> rfl

/-- A block, not below B, that holds the secret and the atom y. -/
def TwoIn (B : Nat) (W : World) (b : Nat) (x : Int) : Prop := (B ≤ b ∧ b < W.heap.size) ∧ Sec4 W b 0 x ∧ Cell4 W b 4 (.int .i64 1) (.int .i64 0) (.string ⟨#[121]⟩) (.slice none 0 0)
theorem TwoIn.go {B : Nat} {W W' : World} {b : Nat} {x : Int} (h : TwoIn B W b x) (hb : Below W.heap.size W W') : TwoIn B W' b x := ⟨⟨h.1.1, Nat.lt_of_lt_of_le h.1.2 hb.size⟩, h.2.1.below hb h.1.2, h.2.2.below hb h.1.2⟩
theorem TwoIn.goAlloc {B : Nat} {W : World} {b : Nat} {x : Int} {o : Obj} (h : TwoIn B W b x) : TwoIn B (W.alloc o) b x := h.go (Below.alloc (Below.refl _ _) (Nat.le_refl _) _)
theorem TwoIn.new {B : Nat} (W : World) (x : Int) (T : TypeId) (hB : B ≤ W.heap.size) : TwoIn B (W.alloc (.cells #[.int .i64 2, .int .i64 x, .string ⟨#[]⟩, .slice none 0 0, .int .i64 1, .int .i64 0, .string ⟨#[121]⟩, .slice none 0 0] T)) W.heap.size x := by
  obtain ⟨_, n, k⟩ := stepA (W := W) (T := T) (cs := #[.int .i64 2, .int .i64 x, .string ⟨#[]⟩, .slice none 0 0, .int .i64 1, .int .i64 0, .string ⟨#[121]⟩, .slice none 0 0]) (Below.refl _ _)
  exact ⟨⟨hB, n⟩, ⟨k 0 _ rfl, k 1 _ rfl, k 2 _ rfl, k 3 _ rfl⟩, k 4 _ rfl, k 5 _ rfl, k 6 _ rfl, k 7 _ rfl⟩
theorem TwoIn.newS {B : Nat} (W : World) (o : Obj) (x : Int) (T : TypeId) (hB : B ≤ W.heap.size) : TwoIn B ((W.alloc o).alloc (.cells #[.int .i64 2, .int .i64 x, .string ⟨#[]⟩, .slice none 0 0, .int .i64 1, .int .i64 0, .string ⟨#[121]⟩, .slice none 0 0] T)) (W.heap.size + 1) x := by
  have h := TwoIn.new (B := B) (W.alloc o) x T (by simp; omega)
  rwa [show (W.alloc o).heap.size = W.heap.size + 1 by simp] at h
theorem TwoIn.grown {B : Nat} {W W' : World} {b g : Nat} {x : Int} (h : TwoIn B W b x) (hg : W.grownBy W' (some g)) (hgB : g < B) : TwoIn B W' b x := by
  have e : W'.heap[b]? = W.heap[b]? := hg.block b h.1.2 (fun e => by injection e with e; have := h.1.1; omega)
  have hc : ∀ j, W'.cell? ⟨b, j, none⟩ = W.cell? ⟨b, j, none⟩ := fun j => World.cell?_of_block e
  have hs := hg.size
  exact ⟨⟨h.1.1, by have := h.1.2; omega⟩, ⟨(hc _).trans h.2.1.1, (hc _).trans h.2.1.2.1, (hc _).trans h.2.1.2.2.1, (hc _).trans h.2.1.2.2.2⟩, (hc _).trans h.2.2.1, (hc _).trans h.2.2.2.1, (hc _).trans h.2.2.2.2.1, (hc _).trans h.2.2.2.2.2⟩

theorem TwoIn.rep {B : Nat} {W : World} {b : Nat} {x : Int} (h : TwoIn B W b x) (hx : 0 ≤ x ∧ x ≤ 1073741824) (k : Int) (hk : 0 ≤ k ∧ k ≤ 100) : RepV W W.heap.size (kid2 k (secN x) (atY 121)).1 (kid2 k (secN x) (atY 121)).2 (.agg #[.int .i64 k, .int .i64 0, .string ⟨#[]⟩, .slice (some ⟨b, 0, none⟩) 2 2]) := by
  have fx : (atY 121).1.Fit := fit_atom _ (by decide)
  refine ⟨fit_k k hk, some ⟨b, 0, none⟩, 2, b, 0, rfl, by simp [kid2, flen], .inr rfl, ?_⟩
  exact RepG.toF (S := fun b => b < W.heap.size) (fun _ h => h) (repG_sec (w := W) (S := fun b => b < W.heap.size) (b := b) (j := 0) hx h.1.2 h.2.1 (repG_one (A := none) (cap := 0) (b' := 0) (o' := 0) h.1.2 fx h.2.2 (by simp [atY, flen]) (.inl rfl) trivial trivial))

section
variable {P : Program} (w : World)

theorem step_append_anyG {ops : Array Oper} {o : Oper} {a : Act} {K : Act → World → Prop} {Q : Exit → Act → World → Prop} {E : Prop} (hw : Region.wanted o (yielded ops a.tmps) = true) (s x : Operand) (t : TypeId)
    (ho : o.op = .call { callee := .builtin .append, args := #[s, x], argTypes := #[t, t] }) (base : Nat)
    (e : TypeId) (i : TypeInfo) (z : Value) (size bytes : Nat) (ht : P.underlying t = some (.slice e)) (hi : P.info? e = some i) (hz : i.zero = some z)
    (hsize : i.size = size) (hby : i.bytes = bytes) (hzs : z.cells.size = size) (hsz : 0 < size) (v : Value) (n : Nat) (xs : List Value) (hs : a.eval s = v) (hown : w.ownsRow base e size v n xs)
    (A : Option Addr) (m c : Nat) (news : List Value) (hx : a.eval x = .slice A m c) (hsrc : SrcAt w size A m news) (h63 : n + m ≤ maxLen) (hbytes : (n + m) * bytes ≤ 140737488355328) (hbase : base ≤ w.heap.size)
    (h : ∀ v' w', w'.ownsRow base e size v' (n + m) (xs ++ news) → w.grownBy w' v.ownBlock → (v'.ownBlock = v.ownBlock ∨ v'.ownBlock = some w.heap.size) → K (a.put o.dst v') w') :
    if Region.wanted o (yielded ops a.tmps) = true then Oper.wp P o a w K Q else E := by
  rw [if_pos hw]
  exact wp_append_any w s x t ho base e i z size bytes ht hi hz hsize hby hzs hsz v n xs hs hown A m c news hx hsrc h63 hbytes hbase h

end

end Go.Proofs.YtbjneijgbikcpaaDoor
