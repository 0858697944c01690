import Derived.Test.YtooffmmfacdjeaaC4
import Derived.Test.YtooffmmfacdjeaaR2
import Derived.Laws.IdiomStrings
namespace Go.Proofs.Ytooffmmfacdjeaa
open Go.RowKit
set_option linter.unusedVariables false
set_option linter.unusedSimpArgs false

/-- What node, atom, above answer: an error beside nothing, or the term. -/
def NdEnd (w : World) (rb B : Nat) (r : Except Nat (Nd × Fo × Nat × List UInt8)) (e : Ending) (w' : World) : Prop :=
  (∀ er, r = .error er → e = .returned (.tuple #[.agg #[.int .i64 0, .int .i64 0, .string ⟨#[]⟩, .slice none 0 0], .iface 36 (.int .i64 (er : Int))]) ∧ Only rb w w') ∧
  (∀ a l k ys, r = .ok (a, l, k, ys) → ∃ v A2 cap2, e = .returned (.tuple #[v, .nilIface]) ∧ Only rb w w' ∧ RdAt w' rb A2 cap2 ys k ∧ ByAt w' B A2 ys ∧ RepVG w' (fun b => w.heap.size ≤ b ∧ b < w'.heap.size) a l v)

theorem nd_err {w w' : World} {rb B er : Nat} {r : Except Nat (Nd × Fo × Nat × List UInt8)} (hr : r = .error er) (ho : Only rb w w') :
    NdEnd w rb B r (.returned (.tuple #[.agg #[.int .i64 0, .int .i64 0, .string ⟨#[]⟩, .slice none 0 0], .iface 36 (.int .i64 (er : Int))])) w' :=
  ⟨fun er' h => by rw [hr] at h; injection h with h; subst h; exact ⟨rfl, ho⟩, fun a l k ys h => by rw [hr] at h; injection h⟩

theorem nd_ok {w w' : World} {rb B k : Nat} {r : Except Nat (Nd × Fo × Nat × List UInt8)} {a : Nd} {l : Fo} {ys : List UInt8} {v : Value} {A2 : Option Addr} {cap2 : Nat} (hr : r = .ok (a, l, k, ys)) (ho : Only rb w w') (h1 : RdAt w' rb A2 cap2 ys k) (h2 : ByAt w' B A2 ys)
    (h3 : RepVG w' (fun b => w.heap.size ≤ b ∧ b < w'.heap.size) a l v) : NdEnd w rb B r (.returned (.tuple #[v, .nilIface])) w' :=
  ⟨fun er h => by rw [hr] at h; injection h, fun a' l' k' ys' h => by rw [hr] at h; injection h with h; injection h with e1 h; injection h with e2 h; injection h with e3 e4; subst e1 e2 e3 e4; exact ⟨v, A2, cap2, rfl, ho, h1, h2, h3⟩⟩

theorem conv_bytes (w : World) (B : Nat) (A : Option Addr) (zs : List UInt8) (cap : Nat) (h : ByAt w B A zs) : (convert 32 9 (.slice A zs.length cap)).run Try.prog w = .ok (.string ⟨zs.toArray⟩) w := by
  rcases h with rfl | ⟨b, o, rfl, hb, hc⟩
  · cases A with
    | none => rw [show ([] : List UInt8).length = 0 from rfl, run_convert_bytes_string w 32 9 5 none 0 cap Try.underlying32 Try.underlying5 Try.underlying9]; rfl
    | some a => exact run_convert_bytes_back (P := Try.prog) w 32 9 5 a cap [] Try.underlying32 Try.underlying5 Try.underlying9 (fun j hj => by simp at hj)
  · exact run_convert_bytes_back (P := Try.prog) w 32 9 5 ⟨b, o, none⟩ cap zs Try.underlying32 Try.underlying5 Try.underlying9 (fun j hj => by
      have ea : (⟨b, o, none⟩ : Addr).add j = ⟨b, o + j, none⟩ := by cases j <;> simp [Addr.add]
      rw [ea, hc j hj]; simp [List.getD, List.getElem?_eq_getElem hj])

theorem frozen_set4' (w : World) (q : Nat) (u0 u1 u2 u3 : Value) (p : Addr) (h : p.block ≠ q) :
    ((((w.setCell ⟨q, 0, none⟩ u0).setCell ⟨q, 1, none⟩ u1).setCell ⟨q, 2, none⟩ u2).setCell ⟨q, 3, none⟩ u3).frozen? p = w.frozen? p := by
  refine World.frozen?_of_block ?_
  rw [Below.heap_setCell _ _ _ _ (by simpa using h), Below.heap_setCell _ _ _ _ (by simpa using h), Below.heap_setCell _ _ _ _ (by simpa using h), Below.heap_setCell _ _ _ _ (by simpa using h)]

theorem size_set4' (w : World) (q : Nat) (u0 u1 u2 u3 : Value) :
    ((((w.setCell ⟨q, 0, none⟩ u0).setCell ⟨q, 1, none⟩ u1).setCell ⟨q, 2, none⟩ u2).setCell ⟨q, 3, none⟩ u3).heap.size = w.heap.size := by simp [World.setCell]

theorem RdAt.set4 {w : World} {rb : Nat} {A : Option Addr} {cap : Nat} {xs : List UInt8} {k : Nat} (h : RdAt w rb A cap xs k) {q : Nat} (hq : rb ≠ q) (u0 u1 u2 u3 : Value) :
    RdAt ((((w.setCell ⟨q, 0, none⟩ u0).setCell ⟨q, 1, none⟩ u1).setCell ⟨q, 2, none⟩ u2).setCell ⟨q, 3, none⟩ u3) rb A cap xs k :=
  ⟨by rw [size_set4']; exact h.lt, by rw [cell_set4 _ _ _ _ _ _ _ _ hq]; exact h.c0, by rw [cell_set4 _ _ _ _ _ _ _ _ hq]; exact h.c1, by rw [frozen_set4' _ _ _ _ _ _ _ hq]; exact h.f0, by rw [frozen_set4' _ _ _ _ _ _ _ hq]; exact h.f1, h.cap', h.max'⟩
theorem ByAt.set4 {w : World} {B : Nat} {A : Option Addr} {xs : List UInt8} (h : ByAt w B A xs) {q : Nat} (hq : B ≤ q) (u0 u1 u2 u3 : Value) :
    ByAt ((((w.setCell ⟨q, 0, none⟩ u0).setCell ⟨q, 1, none⟩ u1).setCell ⟨q, 2, none⟩ u2).setCell ⟨q, 3, none⟩ u3) B A xs :=
  h.keep (Nat.le_refl _) (fun b o hb => cell_set4 _ _ _ _ _ _ _ _ (by omega))

def tkAK (k : Nat) (xs : List UInt8) : Except Nat (Nd × Fo × Nat × List UInt8) := match tkA xs with | .error e => .error e | .ok (a, zs) => .ok (a, .nil, k, zs)

theorem fit_leaf (k n : Int) (s : ByteArray) (h1 : 0 ≤ k ∧ k ≤ 1000) (h2 : 0 ≤ n ∧ n ≤ 4294967296) (h3 : s.size ≤ 1000000) : Nd.Fit ⟨k, n, s⟩ :=
  ⟨by simp; omega, by simp; omega, by simp; omega, by simp; omega, by unfold maxLen; simp; omega⟩

theorem rep_leaf {w : World} {S : Nat → Prop} {a : Nd} (h : a.Fit) : RepVG w S a .nil (.agg #[.int .i64 a.kind, .int .i64 a.n, .string a.s, .slice none 0 0]) := ⟨h, none, 0, 0, 0, rfl, Nat.zero_le _, .inl rfl, trivial⟩

set_option maxRecDepth 100000 in
set_option maxHeartbeats 1000000 in
theorem ratom_any (w : World) (rb : Nat) (A : Option Addr) (cap : Nat) (xs : List UInt8) (k B : Nat) (h : RdAt w rb A cap xs k) (hy : ByAt w B A xs) (hB : B ≤ rb) :
    Calls Try.prog 61 #[.pointer (some ⟨rb, 0, none⟩)] w fun e w' => NdEnd w rb B (tkAK k xs) e w' := by
  have h0 := h.lt
  have HR : Hid (RdAt w rb A cap xs k) := h
  clear h
  go_enter Try.func61, Try.ntmps61
  go_wp2_with fail
  refine (rnum_any _ rb A cap xs k B 2 1024 _ _ rfl rfl (by omega) (HR.out.keep (Below.alloc (Below.refl _ _) (Nat.le_refl _) _)) (hy.keep (Nat.le_refl _) (fun b o hb => World.cell?_alloc_past _ _ _ (by omega))) hB).mono ?_
  rintro e w1 ⟨h1, h2⟩
  cases ht : tkN 2 1024 xs with
  | error er =>
    obtain ⟨rfl, ho⟩ := h1 er ht
    have HT : Hid (tkAK k xs = .error er) := by show tkAK k xs = _; rw [tkAK, tkA, ht]
    clear h1 h2 ht
    obtain ⟨r0, r1, r2, r3, f0, f1, f2, f3⟩ := res4 ho h0
    go_wp2_with fail
    exact bodyPost_ret (v := .tuple #[.agg #[.int .i64 0, .int .i64 0, .string ⟨#[]⟩, .slice none 0 0], .iface 36 (.int .i64 (er : Int))]) (by simp [results, Try.results61, go_sem, r0, r1, r2, r3]) rfl
      (nd_err HT.out (Only.set4 ((Only.alloc (Only.refl _ _) _).trans ho) (Nat.le_refl _) _ _ _ _))
  | ok x =>
    obtain ⟨n, ys⟩ := x
    obtain ⟨A2, cap2, rfl, ho, hrd, hby⟩ := h2 n ys ht
    have hn : n ≤ 1024 := by
      rw [tkN] at ht; split at ht; injection ht; split at ht; injection ht; injection ht with ht; injection ht with e1 e2; omega
    have HT : Hid (tkAK k xs = if ys.length < n then .error 1 else .ok (⟨1, 0, ⟨(ys.take n).toArray⟩⟩, .nil, k, ys.drop n)) := by
      show tkAK k xs = _; rw [tkAK, tkA, ht]; by_cases hq : ys.length < n <;> simp [hq]
    clear h1 h2 ht
    by_cases hl : ys.length < n
    · go_wp2_with fail
      refine (rbytes_short w1 rb A2 cap2 ys k n _ rfl hrd hl).mono ?_
      rintro e w2 ⟨rfl, rfl⟩
      obtain ⟨r0, r1, r2, r3, f0, f1, f2, f3⟩ := res4 ho h0
      go_wp2_with fail
      exact bodyPost_ret (v := .tuple #[.agg #[.int .i64 0, .int .i64 0, .string ⟨#[]⟩, .slice none 0 0], .iface 36 (.int .i64 1)]) (by simp [results, Try.results61, go_sem, r0, r1, r2, r3]) rfl
        (nd_err (er := 1) (by rw [HT.out, if_pos hl]) (Only.set4 ((Only.alloc (Only.refl _ _) _).trans ho) (Nat.le_refl _) _ _ _ _))
    · go_wp2_with fail
      refine (rbytes_ok w1 rb A2 cap2 ys k B n _ rfl hrd hby hB (by omega)).mono ?_
      rintro e w2 ⟨A3, A4, cap4, rfl, ho2, hrd2, hby3, hby4⟩
      have hO : Only rb (w.alloc (.cells #[.int .i64 0, .int .i64 0, .string ⟨#[]⟩, .slice none 0 0] 30)) w2 := ho.trans ho2
      obtain ⟨r0, r1, r2, r3, f0, f1, f2, f3⟩ := res4 hO h0
      have hlt : (ys.take n).length = n := by rw [List.length_take]; omega
      have hcv := conv_bytes w2 B A3 (ys.take n) n hby3
      rw [hlt] at hcv
      obtain ⟨st, hst, hss⟩ : ∃ st : ByteArray, st = ⟨(ys.take n).toArray⟩ ∧ st.size = n := ⟨_, rfl, by show (ys.take n).toArray.size = n; rw [List.size_toArray, hlt]⟩
      rw [← hst] at hcv
      have HST : Hid (st = ⟨(ys.take n).toArray⟩) := hst
      have HR2 : Hid (RdAt w2 rb A4 cap4 (ys.drop n) k) := hrd2
      have HY2 : Hid (ByAt w2 B A4 (ys.drop n)) := hby4
      clear hst hrd2 hby4 hby3 hrd hby ho2
      go_wp2_with fail
      refine bodyPost_ret (v := .tuple #[.agg #[.int .i64 1, .int .i64 0, .string st, .slice none 0 0], .nilIface]) (by simp [results, Try.results61, go_sem, r0, r1, r2, r3]) rfl ?_
      refine nd_ok (by rw [HT.out, if_neg hl, ← HST.out]) (Only.set4 ((Only.alloc (Only.refl _ _) _).trans hO) (Nat.le_refl _) _ _ _ _) (HR2.out.set4 (by omega) _ _ _ _) (HY2.out.set4 (by omega) _ _ _ _) ?_
      exact rep_leaf (a := ⟨1, 0, st⟩) (fit_leaf 1 0 st (by omega) (by omega) (by omega))

end Go.Proofs.Ytooffmmfacdjeaa
