import Derived.Test.YtooffmmfacdjeaaC5
import Derived.Test.YtooffmmfacdjeaaQ2
import Derived.Laws.IdiomCopy
namespace Go.Proofs.Ytooffmmfacdjeaa
open Go.RowKit
set_option linter.unusedVariables false
set_option linter.unusedSimpArgs false

theorem Try.infoTerm2 : (Try.prog.info? 30).map (fun i => (i.zero, i.size, i.bytes)) = some (some (.agg #[.int .i64 0, .int .i64 0, .string ⟨#[]⟩, .slice none 0 0]), 4, 56) := by kernel_rfl

def NodeOk (f : Nat) : Prop := ∀ (w : World) (rb : Nat) (A : Option Addr) (cap : Nat) (xs : List UInt8) (k B : Nat) (dz : Int), dz = 17 - (f : Int) → RdAt w rb A cap xs k → ByAt w B A xs → B ≤ rb → k ≤ 64 →
    Calls Try.prog 36 #[.pointer (some ⟨rb, 0, none⟩), .int .i64 dz] w fun e w' => NdEnd w rb B (tk f k xs) e w'

def aboveR (g : Nat → List UInt8 → Except Nat (Nd × Fo × Nat × List UInt8)) (h c k : Nat) (ys : List UInt8) : Except Nat (Nd × Fo × Nat × List UInt8) :=
  match kidsG g c k ys with | .error e => .error e | .ok (f, k1, zs) => .ok (ndK h, f, k1, zs)

def addK (ks : List Kd) (r : Except Nat (Fo × Nat × List UInt8)) : Except Nat (Fo × Nat × List UInt8) := match r with | .error e => .error e | .ok (g, k, ys) => .ok (foOf ks g, k, ys)

theorem tk_le {f k : Nat} {xs : List UInt8} {a : Nd} {l : Fo} {k1 : Nat} {ys : List UInt8} (hf : f ≤ 16) (hk : k ≤ 64) (h : tk f k xs = .ok (a, l, k1, ys)) : k1 ≤ 64 := by
  obtain ⟨_, h2, _⟩ := tk_of f hf _ _ _ _ _ _ h
  have := mayT_le a l (17 - (f : Int)) k (by omega) (by rw [h2])
  rw [h2] at this; simp at this; omega

theorem makeTerms (c : Nat) (hc : c = 1 ∨ c = 2) : ∃ C : Array Value, C.size = 4 * c ∧ ∀ w : World, (Instr.makeSlice 24 (.int .i64 (c : Int)) (.int .i64 (c : Int))).run Try.prog w = .ok (.slice (some ⟨w.heap.size, 0, none⟩) c c) (w.alloc (.cells C 30)) := by
  rcases hc with rfl | rfl
  · exact ⟨#[.int .i64 0, .int .i64 0, .string ⟨#[]⟩, .slice none 0 0], rfl, fun w => by kernel_rfl⟩
  · exact ⟨#[.int .i64 0, .int .i64 0, .string ⟨#[]⟩, .slice none 0 0, .int .i64 0, .int .i64 0, .string ⟨#[]⟩, .slice none 0 0], rfl, fun w => by kernel_rfl⟩

/-- The row M of so many terms, the first ones laid. -/
structure RowM (w : World) (M c : Nat) (ks : List Kd) : Prop where
  lt : M < w.heap.size
  le : ks.length ≤ c
  laid : ∀ j, j < 4 * ks.length → w.cell? ⟨M, j, none⟩ = (rowOf ks)[j]?
  free : ∀ j, j < 4 * c → ∃ z, w.cell? ⟨M, j, none⟩ = some z
  soft : ∀ j, w.frozen? ⟨M, j, none⟩ = false
  ok : ∀ q ∈ ks, q.Ok w (fun b => M < b ∧ b < w.heap.size)

def AbRel (w : World) (f rb B M c k : Nat) (xs : List UInt8) (T : Obj) (iv : Value) (wr : World) : Prop :=
  ∃ (ks : List Kd) (k' : Nat) (xs' : List UInt8) (A' : Option Addr) (cap' : Nat), iv = .int .i64 (ks.length : Int) ∧ ks.length ≤ c ∧ k' ≤ 64 ∧ kidsG (tk f) c k xs = addK ks (kidsG (tk f) (c - ks.length) k' xs') ∧
    Only rb (w.alloc T) wr ∧ RowM wr M c ks ∧ RdAt wr rb A' cap' xs' k' ∧ ByAt wr B A' xs'

theorem RowM.keep {w w' : World} {M c : Nat} {ks : List Kd} (h : RowM w M c ks) (hs : w.heap.size ≤ w'.heap.size) (hk : ∀ q, M ≤ q → q < w.heap.size → w'.heap[q]? = w.heap[q]?) : RowM w' M c ks := by
  have c1 : ∀ q j, M ≤ q → q < w.heap.size → w'.cell? ⟨q, j, none⟩ = w.cell? ⟨q, j, none⟩ := fun q j h1 h2 => World.cell?_of_block (hk q h1 h2)
  refine ⟨Nat.lt_of_lt_of_le h.lt hs, h.le, fun j hj => by rw [c1 _ _ (Nat.le_refl _) h.lt]; exact h.laid j hj, fun j hj => by rw [c1 _ _ (Nat.le_refl _) h.lt]; exact h.free j hj, fun j => by rw [World.frozen?_of_block (hk M (Nat.le_refl _) h.lt)]; exact h.soft j, fun q hq => (h.ok q hq).keep (fun b hb => ⟨hb.1, by omega⟩) (fun b o hb => c1 b o (by omega) hb.2)⟩

theorem set4_cells (w : World) (M o : Nat) (u0 u1 u2 u3 : Value) : (((w.setCell ⟨M, o, none⟩ u0).setCell ⟨M, o + 1, none⟩ u1).setCell ⟨M, o + 2, none⟩ u2).setCell ⟨M, o + 3, none⟩ u3 = w.setCells M o [u0, u1, u2, u3] := rfl

theorem heap_setRowC (b : Nat) : ∀ (vs : List Value) (o : Nat) (w : World) (q : Nat), q ≠ b → (w.setCells b o vs).heap[q]? = w.heap[q]?
  | [], _, _, _, _ => rfl
  | v :: r, o, w, q, h => by rw [World.setCells, heap_setRowC b r (o + 1) _ q h, Below.heap_setCell _ _ _ _ (by simpa using h)]
theorem size_setCells (b : Nat) : ∀ (vs : List Value) (o : Nat) (w : World), (w.setCells b o vs).heap.size = w.heap.size
  | [], _, _ => rfl
  | v :: r, o, w => by rw [World.setCells, size_setCells b r]; simp [World.setCell]

theorem Only.setRowC {b M : Nat} {a : World} (hM : a.heap.size ≤ M) : ∀ (vs : List Value) (o : Nat) {w : World}, Only b a w → Only b a (w.setCells M o vs)
  | [], _, _, h => h
  | v :: r, o, w, h => by rw [World.setCells]; exact Only.setRowC hM r (o + 1) (Only.setCell (p := ⟨M, o, none⟩) h (.inr hM) _)

theorem RowM.step {w : World} {M c : Nat} {ks : List Kd} (h : RowM w M c ks) (hc : ks.length < c) (kd : Kd) (hk : kd.Ok w (fun b => M < b ∧ b < w.heap.size)) : RowM (w.setCells M (ks.length * 4) kd.cells) M c (ks ++ [kd]) := by
  have hl : kd.cells.length = 4 := rfl
  have far : ∀ b o, M < b → (w.setCells M (ks.length * 4) kd.cells).cell? ⟨b, o, none⟩ = w.cell? ⟨b, o, none⟩ := fun b o hb => World.cell?_of_block (heap_setRowC M _ _ _ _ (by simp; omega))
  have new : ∀ j, j < 4 → (w.setCells M (ks.length * 4) kd.cells).cell? ⟨M, ks.length * 4 + j, none⟩ = kd.cells[j]? := fun j hj => by
    rw [World.cell?_setCells_in M kd.cells (ks.length * 4) w (fun i hi => by rw [hl] at hi; obtain ⟨z, hz⟩ := h.free (ks.length * 4 + i) (by omega); rw [hz]; rfl) j (by omega)]
    rw [List.getElem?_eq_getElem (by omega)]
  have old : ∀ j, j < ks.length * 4 ∨ ks.length * 4 + 4 ≤ j → (w.setCells M (ks.length * 4) kd.cells).cell? ⟨M, j, none⟩ = w.cell? ⟨M, j, none⟩ := fun j hj => World.cell?_setCells_out M _ _ _ _ (fun _ _ => by rw [hl]; exact hj)
  refine ⟨by rw [size_setCells]; exact h.lt, by simp; omega, fun j hj => ?_, fun j hj => ?_, fun j => by rw [World.frozen?_setCells]; exact h.soft j, fun q hq => ?_⟩
  · rw [List.length_append] at hj; simp only [List.length_cons, List.length_nil] at hj
    rw [rowOf_append]
    by_cases hj1 : j < 4 * ks.length
    · rw [old j (.inl (by omega)), List.getElem?_append_left (by rw [rowOf_length]; exact hj1)]; exact h.laid j hj1
    · rw [List.getElem?_append_right (by rw [rowOf_length]; omega), rowOf_length]
      have e : j = ks.length * 4 + (j - 4 * ks.length) := by omega
      rw [e, new _ (by omega), show ks.length * 4 + (j - 4 * ks.length) - 4 * ks.length = j - 4 * ks.length from by omega]
      simp [rowOf]
  · by_cases hj1 : j < ks.length * 4 ∨ ks.length * 4 + 4 ≤ j
    · rw [old j hj1]; exact h.free j hj
    · have e : j = ks.length * 4 + (j - ks.length * 4) := by omega
      rw [e, new _ (by omega)]
      exact ⟨kd.cells[j - ks.length * 4]'(by omega), List.getElem?_eq_getElem (by omega)⟩
  · rcases List.mem_append.1 hq with hq | hq
    · exact (h.ok q hq).keep (fun b hb => ⟨hb.1, by rw [size_setCells]; exact hb.2⟩) (fun b o hb => far b o hb.1)
    · simp at hq; subst hq
      exact hk.keep (fun b hb => ⟨hb.1, by rw [size_setCells]; exact hb.2⟩) (fun b o hb => far b o hb.1)

theorem RdAt.setCells {w : World} {rb : Nat} {A : Option Addr} {cap : Nat} {xs : List UInt8} {k : Nat} (h : RdAt w rb A cap xs k) {M : Nat} (hM : rb ≠ M) (o : Nat) (vs : List Value) : RdAt (w.setCells M o vs) rb A cap xs k := by
  have e : (w.setCells M o vs).heap[rb]? = w.heap[rb]? := heap_setRowC M vs o w rb hM
  exact ⟨by rw [size_setCells]; exact h.lt, by rw [World.cell?_of_block e]; exact h.c0, by rw [World.cell?_of_block e]; exact h.c1, by rw [World.frozen?_of_block e]; exact h.f0, by rw [World.frozen?_of_block e]; exact h.f1, h.cap', h.max'⟩

set_option maxRecDepth 100000 in
set_option maxHeartbeats 2000000 in
theorem above_any (f : Nat) (hf : f ≤ 16) (ih : NodeOk f) (w : World) (rb : Nat) (A : Option Addr) (cap : Nat) (xs : List UInt8) (k B : Nat) (h c : Nat) (dz cz hz : Int) (hdz : dz = 16 - (f : Int)) (hcz : cz = (c : Int)) (hhz : hz = (h : Int)) (hc2 : c ≤ 2) (hc1 : 1 ≤ c) (hh : h ≤ 255) (hR : RdAt w rb A cap xs k) (hy : ByAt w B A xs) (hB : B ≤ rb) (hk : k ≤ 64) :
    Calls Try.prog 63 #[.pointer (some ⟨rb, 0, none⟩), .int .i64 hz, .int .i64 cz, .int .i64 dz] w fun e w' => NdEnd w rb B (aboveR (tk f) h c k xs) e w' := by
  subst hcz hhz
  have HDZ : Hid (dz = 16 - (f : Int)) := hdz
  have hd0 : 0 ≤ dz := by omega
  have hd1 : dz ≤ 16 := by omega
  clear hdz
  have h0 := hR.lt
  have HR : Hid (RdAt w rb A cap xs k) := hR
  clear hR
  obtain ⟨C, hC, hmk⟩ := makeTerms c (by omega)
  go_enter Try.func63, Try.ntmps63
  go_wp2_with fail
  go_loopw [18] (fun iv wr => AbRel w f rb B (w.heap.size + 1) c k xs (.cells #[.int .i64 0, .int .i64 0, .string ⟨#[]⟩, .slice none 0 0] 30) iv wr) (fun iv _ => c - (intOf iv).toNat)
  case atStart =>
    refine ⟨[], k, xs, A, cap, rfl, Nat.zero_le _, hk, ?_, Only.alloc (Only.refl _ _) _, ⟨by simp, Nat.zero_le _, fun j hj => by simp at hj, ?_, fun j => by simp [go_sem], by simp⟩, HR.out.keep (Below.alloc (Below.alloc (Below.refl _ _) (by simp) _) (by simp) _), hy.keep (Nat.le_refl _) (fun b o hb => by rw [World.cell?_alloc_past _ _ _ (by simp; omega), World.cell?_alloc_past _ _ _ (by omega)])⟩
    · show kidsG (tk f) c k xs = addK [] (kidsG (tk f) (c - 0) k xs)
      rw [Nat.sub_zero]; cases kidsG (tk f) c k xs <;> rfl
    · intro j hj
      exact ⟨C[j]'(by omega), by simp [go_sem, show j < C.size by omega]⟩
  case round =>
    obtain ⟨ks, k', xs', A', cap', rfl, hks, hk', hrun, ho, hrow, hrd, hby⟩ := hrel
    have HRUN : Hid (kidsG (tk f) c k xs = addK ks (kidsG (tk f) (c - ks.length) k' xs')) := hrun
    have hsz := ho.size
    simp only [World.heap_size_alloc'] at hsz
    clear hrun hmk
    by_cases hlt : (ks.length : Int) < (c : Int)
    · have HRD : Hid (RdAt wr rb A' cap' xs' k') := hrd
      have HBY : Hid (ByAt wr B A' xs') := hby
      have HROW : Hid (RowM wr (w.heap.size + 1) c ks) := hrow
      have hMr := hrow.lt
      clear hrd hby hrow
      go_wp2_with fail
      refine (ih wr rb A' cap' xs' k' B _ (by have := HDZ.out; omega) HRD.out HBY.out hB hk').mono ?_
      rintro e w2 ⟨h1, h2⟩
      cases ht : tk f k' xs' with
      | error er =>
        obtain ⟨rfl, ho2⟩ := h1 er ht
        have HT : Hid (aboveR (tk f) h c k xs = .error er) := by
          show aboveR (tk f) h c k xs = _
          rw [aboveR, HRUN.out, show c - ks.length = (c - ks.length - 1) + 1 from by omega, kidsG, ht]; rfl
        clear h1 h2 ht
        obtain ⟨r0, r1, r2, r3, f0, f1, f2, f3⟩ := res4 (ho.trans ho2) h0
        have hq : w.heap.size < w2.heap.size := by have := ho2.size; omega
        go_wp2_with fail
        exact bodyPost_ret (v := .tuple #[.agg #[.int .i64 0, .int .i64 0, .string ⟨#[]⟩, .slice none 0 0], .iface 36 (.int .i64 (er : Int))]) (by simp [results, Try.results63, go_sem, r0, r1, r2, r3, hq]) rfl
          (nd_err HT.out (Only.alloc (Only.set4 ((Only.alloc (Only.refl _ _) _).trans (ho.trans ho2)) (Nat.le_refl _) _ _ _ _) _))
      | ok x =>
        obtain ⟨a1, l1, k1, ys⟩ := x
        obtain ⟨v, A2, cap2, rfl, ho2, hrd2, hby2, hf1, A3, cap3, b3, o3, rfl, hn3, hA3, hl3⟩ := h2 a1 l1 k1 ys ht
        have HA3 : Hid (flen l1 = 0 ∨ A3 = some ⟨b3, o3, none⟩) := hA3
        have hle := tk_le hf hk' ht
        have HT : Hid (kidsG (tk f) c k xs = addK (ks ++ [⟨0, 0, a1, l1, A3, cap3, b3, o3⟩]) (kidsG (tk f) (c - (ks.length + 1)) k1 ys)) := by
          show kidsG (tk f) c k xs = _
          rw [HRUN.out, show c - ks.length = (c - (ks.length + 1)) + 1 from by omega, kidsG, ht]
          simp only
          cases kidsG (tk f) (c - (ks.length + 1)) k1 ys with
          | error e => rfl
          | ok y => obtain ⟨g, k9, z9⟩ := y; simp [addK, foOf_append, foOf]
        have hs2 := ho2.size
        have hrow2 : RowM w2 (w.heap.size + 1) c ks := HROW.out.keep hs2 (fun q h1 h2 => ho2.block q h2 (by omega))
        have HROW2 : Hid (RowM w2 (w.heap.size + 1) c ks) := hrow2
        have HRD2 : Hid (RdAt w2 rb A2 cap2 ys k1) := hrd2
        have HBY2 : Hid (ByAt w2 B A2 ys) := hby2
        have hlt2 := hrow2.lt
        obtain ⟨z0, x0⟩ := hrow2.free (ks.length * 4) (by omega)
        obtain ⟨z1, x1⟩ := hrow2.free (ks.length * 4 + 1) (by omega)
        obtain ⟨z2, x2⟩ := hrow2.free (ks.length * 4 + 2) (by omega)
        obtain ⟨z3, x3⟩ := hrow2.free (ks.length * 4 + 3) (by omega)
        have y0 := hrow2.soft (ks.length * 4)
        have y1 := hrow2.soft (ks.length * 4 + 1)
        have y2 := hrow2.soft (ks.length * 4 + 2)
        have y3 := hrow2.soft (ks.length * 4 + 3)
        clear h1 h2 ht hA3 hrow2 hrd2 hby2 HRUN HROW HRD HBY
        go_wp2_with fail
        go_roundw
        case rel =>
          refine ⟨ks ++ [⟨0, 0, a1, l1, A3, cap3, b3, o3⟩], k1, ys, A2, cap2, by simp, by simp; omega, hle, by simp only [List.length_append, List.length_cons, List.length_nil]; exact HT.out, ?_, ?_, ?_, ?_⟩
          · rw [set4_cells]; exact Only.alloc (Only.setRowC (by simp) _ _ (ho.trans ho2)) _
          · rw [set4_cells]
            refine RowM.keep (RowM.step HROW2.out (by omega) ⟨0, 0, a1, l1, A3, cap3, b3, o3⟩ ⟨hf1, hn3, HA3.out, RepG.keep (fun b hb => ⟨by have := hb.1; omega, hb.2⟩) (fun _ _ _ => rfl) hl3⟩) (by rw [World.heap_size_alloc', size_setCells, size_setCells]; omega) (fun q _ hq => Below.heap_alloc _ _ _ hq)
          · rw [set4_cells]; exact (HRD2.out.setCells (by omega) _ _).keep (Below.alloc (Below.refl _ _) (Nat.le_refl _) _)
          · rw [set4_cells]; exact HBY2.out.keep (Nat.le_refl _) (fun b o hb => by rw [World.cell?_alloc_past _ _ _ (by rw [size_setCells]; omega)]; exact World.cell?_of_block (heap_setRowC _ _ _ _ _ (by simp; omega)))
        case measure => simp [intOf]; omega
    · obtain rfl : c = ks.length := by omega
      obtain ⟨r0, r1, r2, r3, f0, f1, f2, f3⟩ := res4 ho h0
      have HT : Hid (aboveR (tk f) h ks.length k xs = .ok (ndK h, foOf ks .nil, k', xs')) := by
        show aboveR (tk f) h ks.length k xs = _
        rw [aboveR, HRUN.out, Nat.sub_self, kidsG]; rfl
      have HRD : Hid (RdAt wr rb A' cap' xs' k') := hrd
      have HBY : Hid (ByAt wr B A' xs') := hby
      have HROW : Hid (RowM wr (w.heap.size + 1) ks.length ks) := hrow
      clear hrd hby hrow HRUN
      go_wp2_with fail
      refine bodyPost_ret (v := .tuple #[.agg #[.int .i64 (h : Int), .int .i64 0, .string ⟨#[]⟩, .slice (some ⟨w.heap.size + 1, 0, none⟩) ks.length ks.length], .nilIface]) (by simp [results, Try.results63, go_sem, r0, r1, r2, r3]) rfl ?_
      refine nd_ok HT.out (Only.set4 ((Only.alloc (Only.refl _ _) _).trans ho) (Nat.le_refl _) _ _ _ _) (HRD.out.set4 (by omega) _ _ _ _) (HBY.out.set4 (by omega) _ _ _ _) ?_
      have hrow := HROW.out
      refine ⟨fit_leaf h 0 _ (by omega) (by omega) (by decide), some ⟨w.heap.size + 1, 0, none⟩, ks.length, w.heap.size + 1, 0, by rw [flen_foOf]; rfl, by rw [flen_foOf]; omega, .inr rfl, ?_⟩
      refine RepG.keep (S := fun b => w.heap.size + 1 ≤ b ∧ b < wr.heap.size) (fun b hb => ⟨by omega, by rw [size_set4']; exact hb.2⟩) (fun b o hb => cell_set4 _ _ _ _ _ _ _ _ (by omega)) ?_
      exact rep_of_row ⟨Nat.le_refl _, hrow.lt⟩ ks 0 (fun q hq => (hrow.ok q hq).keep (fun b hb => ⟨by omega, hb.2⟩) (fun _ _ _ => rfl)) (fun j hj => by rw [Nat.zero_add]; exact hrow.laid j hj)

end Go.Proofs.Ytooffmmfacdjeaa
