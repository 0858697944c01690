import Derived.Test.YtooffmmfacdjeaaC16
import Derived.Test.YtooffmmfacdjeaaU2
namespace Go.Proofs.Ytooffmmfacdjeaa
open Go.RowKit
set_option linter.unusedVariables false
set_option linter.unusedSimpArgs false

theorem sizeOf_terms (w : World) : (Go.sizeOf 24).run Try.prog w = .ok 1 w := by kernel_rfl

theorem rf_end_any {w w' : World} {rb : Nat} {A : Option Addr} {cap : Nat} {bs : List UInt8} {r : Except Nat (Nd × Fo × Nat × List UInt8)} {e : Ending} (h : RfEnd w rb A cap bs r e w') :
    ∃ (k0 n0 : Int) (s0 : ByteArray) (K0 : Option Addr) (len0 c9 : Nat), e = .returned (.agg #[.int .i64 k0, .int .i64 n0, .string s0, .slice K0 len0 c9]) ∧ Only rb w w' ∧
      ((∃ (er : Nat) (at' left : Int), r = .error er ∧ RfSt w' rb A cap bs at' left (er : Int)) ∨
       (∃ (a : Nd) (l : Fo) (k : Nat) (ys : List UInt8) (at' : Nat), r = .ok (a, l, k, ys) ∧ RfSt w' rb A cap bs (at' : Int) (64 - (k : Int)) 0 ∧ at' ≤ bs.length ∧ bs.drop at' = ys ∧ RepVG w' (fun b => w.heap.size ≤ b ∧ b < w'.heap.size) a l (.agg #[.int .i64 k0, .int .i64 n0, .string s0, .slice K0 len0 c9]))) := by
  rcases r with er | ⟨a, l, k, ys⟩
  · obtain ⟨k0, n0, s0, K0, len0, c9, at', left, h1, h2, h3⟩ := h.1 er rfl
    exact ⟨k0, n0, s0, K0, len0, c9, h1, h2, .inl ⟨er, at', left, rfl, h3⟩⟩
  · obtain ⟨v, at', h1, h2, h3, h4, h5, h6⟩ := h.2 a l k ys rfl
    obtain ⟨hf, A', cap', b, o, rfl, hn, hA, hl⟩ := h6
    exact ⟨_, _, _, _, _, _, h1, h2, .inr ⟨a, l, k, ys, at', rfl, h3, h4, h5, hf, A', cap', b, o, rfl, hn, hA, hl⟩⟩

theorem kidsG_next {g : Nat → List UInt8 → Except Nat (Nd × Fo × Nat × List UInt8)} {ks : List Kd} {c k' k3 : Nat} {xs ys : List UInt8} {q : Kd} (hlt : ks.length < c) (hq : q.x = 0 ∧ q.y = 0) (ht : g k' xs = .ok (q.a, q.l, k3, ys)) :
    addK ks (kidsG g (c - ks.length) k' xs) = addK (ks ++ [q]) (kidsG g (c - (ks ++ [q]).length) k3 ys) := by
  rw [show c - ks.length = (c - (ks ++ [q]).length) + 1 from by simp; omega, kidsG, ht]
  dsimp only
  generalize kidsG g (c - (ks ++ [q]).length) k3 ys = r
  cases r with
  | error e => rfl
  | ok r => obtain ⟨r1, k2, zs⟩ := r; simp only [addK, foOf_append, foOf, hq.1, hq.2]

theorem rk_next {w wr w5 w7 : World} {f rb : Nat} {A : Option Addr} {cap : Nat} {bs : List UInt8} {h c k : Nat} {zs : List UInt8} {ks : List Kd} {k' at2 : Nat} {K : Option Addr} {cc : Nat} {k0 n0 : Int} {s0 : ByteArray} {K0 : Option Addr} {len0 c9 : Nat} {K7 : Option Addr} {cc7 : Nat}
    (h0 : rb < w.heap.size) (hf : f ≤ 15) (hk' : k' ≤ 64) (hlt : ks.length < c)
    (hrun : kidsG (tk f) c (k + 1) zs = addK ks (kidsG (tk f) (c - ks.length) k' (bs.drop at2)))
    (hN : NdSt w wr rb A cap bs (at2 : Int) (64 - (k' : Int)) 0 (h : Int) 0 ⟨#[]⟩ (.slice K ks.length cc))
    (hks : ∀ q ∈ ks, q.Ok wr (fun b => w.heap.size + 2 ≤ b ∧ b < wr.heap.size ∧ (Value.slice K ks.length cc).ownBlock ≠ some b))
    (hbk : ∀ q, (Value.slice K ks.length cc).ownBlock = some q → w.heap.size + 2 ≤ q ∧ q < wr.heap.size) (ho5 : Only rb wr.drew w5)
    (hcase : (∃ (er : Nat) (at' left : Int), tk f k' (bs.drop at2) = .error er ∧ RfSt w5 rb A cap bs at' left (er : Int)) ∨
       (∃ (a : Nd) (l : Fo) (k : Nat) (ys : List UInt8) (at' : Nat), tk f k' (bs.drop at2) = .ok (a, l, k, ys) ∧ RfSt w5 rb A cap bs (at' : Int) (64 - (k : Int)) 0 ∧ at' ≤ bs.length ∧ bs.drop at' = ys ∧ RepVG w5 (fun b => wr.drew.heap.size ≤ b ∧ b < w5.heap.size) a l (.agg #[.int .i64 k0, .int .i64 n0, .string s0, .slice K0 len0 c9])))
    (hown7 : w7.ownsRow (w.heap.size + 2) 30 4 (.slice K7 (ks.length + 1) cc7) (ks.length + 1) (rowOf ks ++ [.int .i64 k0, .int .i64 n0, .string s0, .slice K0 len0 c9]))
    (hg57 : w5.grownBy w7 (Value.slice K ks.length cc).ownBlock)
    (hat : (Value.slice K7 (ks.length + 1) cc7).ownBlock = (Value.slice K ks.length cc).ownBlock ∨ ∃ q, (Value.slice K7 (ks.length + 1) cc7).ownBlock = some q ∧ w5.heap.size ≤ q) :
    RkRel w f rb A cap bs h c k zs (.int .i64 ((ks.length : Int) + 1)) (w7.setCell ⟨w.heap.size + 1, 3, none⟩ (.slice K7 (ks.length + 1) cc7)) := by
  have hs5 : wr.heap.size ≤ w5.heap.size := ho5.size
  have hs7 := hg57.size
  rcases hcase with ⟨er, at3, left3, ht, hst5⟩ | ⟨a3, l3, k3, ys3, at3, ht, hst5, hat3, hys, hrep⟩
  · have her := tk_er ht
    refine .inr ⟨ks.length + 1, er, at3, left3, K7, ks.length + 1, cc7, by rw [Int.natCast_add]; rfl, by omega, her.1, her.2, ?_, ((hN.move h0 ((Only.drew (Only.refl _ _)).trans ho5) hst5).grown h0 hg57 (fun q hq => (hbk q hq).1)).kids h0 _⟩
    rw [hrun, show c - ks.length = (c - ks.length - 1) + 1 from by omega, kidsG, ht]; rfl
  · have hk3 := tk_le (by omega) hk' ht
    obtain ⟨hfa, A3, cap3, b3, o3, hv3, hn3, hA3, hl3⟩ := hrep
    simp only [Value.agg.injEq, Array.mk.injEq, List.cons.injEq, Value.int.injEq, Value.string.injEq, Value.slice.injEq, true_and, and_true] at hv3
    obtain ⟨e1, e2, e3, e4, e5, e6⟩ := hv3
    subst e1 e2 e3 e4 e5 e6
    have hstep : ∀ q, q < w5.heap.size → (Value.slice K ks.length cc).ownBlock ≠ some q → q ≠ w.heap.size + 1 → (w7.setCell ⟨w.heap.size + 1, 3, none⟩ (.slice K7 (ks.length + 1) cc7)).heap[q]? = w5.heap[q]? := fun q hq hv hne => by
      rw [Below.heap_setCell _ _ _ _ (by simpa using hne)]; exact hg57.block q hq (fun e => hv e.symm)
    have hg2 : ∀ q, q < w5.heap.size → (Value.slice K ks.length cc).ownBlock ≠ some q → (Value.slice K7 (ks.length + 1) cc7).ownBlock ≠ some q := fun q hq hv e => by
      rcases hat with h | ⟨q', h, h'⟩
      · rw [h] at e; exact hv e
      · rw [h] at e; injection e with e; omega
    have hsz : (w7.setCell ⟨w.heap.size + 1, 3, none⟩ (.slice K7 (ks.length + 1) cc7)).heap.size = w7.heap.size := size_setCellR _ _ _
    refine .inl ⟨ks ++ [⟨0, 0, a3, l3, K0, c9, b3, o3⟩], k3, at3, .slice K7 (ks.length + 1) cc7, by rw [List.length_append]; rfl, by rw [List.length_append]; simp; omega, hk3, hat3, ?_, ((hN.move h0 ((Only.drew (Only.refl _ _)).trans ho5) hst5).grown h0 hg57 (fun q hq => (hbk q hq).1)).kids h0 _, ?_, ?_⟩
    · rw [hrun, hys]; exact kidsG_next (q := ⟨0, 0, a3, l3, K0, c9, b3, o3⟩) hlt ⟨rfl, rfl⟩ ht
    · rw [rowOf_append, List.length_append]
      exact owns_of hown7 (fun q hq => Below.heap_setCell _ _ _ _ (by have := (hown7.lt q hq).1; simp; omega))
    · intro q hq
      rcases List.mem_append.1 hq with hq | hq
      · have hrw : ∀ b, b < wr.heap.size → b ≠ rb → w5.heap[b]? = wr.heap[b]? := fun b hb hne => ho5.block b hb hne
        refine (hks q hq).keep (fun b hb => ⟨hb.1, by rw [hsz]; omega, hg2 b (by omega) hb.2.2⟩) (fun b o hb => ?_)
        exact World.cell?_of_block ((hstep b (by omega) hb.2.2 (by omega)).trans (hrw b hb.2.1 (by omega)))
      · simp at hq; subst hq
        refine ⟨hfa, hn3, hA3, ?_⟩
        have hwd : wr.drew.heap.size = wr.heap.size := rfl
        have hz := hN.sz
        have hnb : ∀ b, wr.heap.size ≤ b → (Value.slice K ks.length cc).ownBlock ≠ some b := fun b hb e => by have := hbk b e; omega
        refine RepG.keep (fun b hb => ⟨by omega, by rw [hsz]; omega, hg2 b hb.2 (hnb b (by omega))⟩) (fun b o hb => World.cell?_of_block (hstep b hb.2 (hnb b (by omega)) (by omega))) hl3

end Go.Proofs.Ytooffmmfacdjeaa
