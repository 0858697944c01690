import Derived.Test.YtooffmmfacdjeaaC7
import Derived.Deep.RegionHeld3
namespace Go.Proofs.Ytooffmmfacdjeaa
open Go.RowKit
set_option linter.unusedVariables false
set_option linter.unusedSimpArgs false

abbrev zeroV : Value := .agg #[.int .i64 0, .int .i64 0, .string ⟨#[]⟩, .slice none 0 0]

def TakeEnd (w : World) (xs : List UInt8) (e : Ending) (w' : World) : Prop :=
  (∀ er, tk 16 0 xs = .error er → e = .returned (.tuple #[.agg #[.int .i64 0, .int .i64 0, .string ⟨#[]⟩, .slice none 0 0], .int .i64 0, .int .i64 (er : Int)]) ∧ Below w.heap.size w w') ∧
  (∀ a l k ys, tk 16 0 xs = .ok (a, l, k, ys) → ∃ v, e = .returned (.tuple #[v, .int .i64 ((xs.length - ys.length : Nat) : Int), .int .i64 0]) ∧ Below w.heap.size w w' ∧ RepVG w' (fun b => w.heap.size ≤ b ∧ b < w'.heap.size) a l v)

theorem tk_er {f k : Nat} {xs : List UInt8} {er : Nat} (h : tk f k xs = .error er) : 1 ≤ er ∧ er ≤ 4 := by
  have hN : ∀ {wide most er : Nat} {xs : List UInt8}, tkN wide most xs = .error er → 1 ≤ er ∧ er ≤ 4 := fun h => by
    rw [tkN] at h; split at h
    · injection h with h; omega
    · split at h
      · injection h with h; omega
      · injection h
  have hA : ∀ {er : Nat} {xs : List UInt8}, tkA xs = .error er → 1 ≤ er ∧ er ≤ 4 := fun {er xs} h => by
    rw [tkA] at h
    cases hn : tkN 2 1024 xs with
    | error e => rw [hn] at h; injection h with h; have := hN hn; omega
    | ok y =>
      obtain ⟨n, ys⟩ := y
      rw [hn] at h; simp only at h; split at h
      · injection h with h; omega
      · injection h
  induction f generalizing k xs er with
  | zero => simp [tk] at h; omega
  | succ f ih =>
    have hK : ∀ (c k : Nat) (xs : List UInt8) {er : Nat}, kidsG (tk f) c k xs = .error er → 1 ≤ er ∧ er ≤ 4 := fun c => by
      induction c with
      | zero => intro k xs er h; simp [kidsG] at h
      | succ c ihc =>
        intro k xs er h
        rw [kidsG] at h
        cases h1 : tk f k xs with
        | error e => rw [h1] at h; injection h with h; have := ih h1; omega
        | ok y =>
          obtain ⟨a, l, k1, ys⟩ := y
          rw [h1] at h; simp only at h
          cases h2 : kidsG (tk f) c k1 ys with
          | error e => rw [h2] at h; injection h with h; have := ihc _ _ h2; omega
          | ok z => rw [h2] at h; injection h
    cases xs with
    | nil => rw [tk] at h; split at h <;> (injection h with h; omega)
    | cons x zs =>
      rw [tk] at h; split at h
      · injection h with h; omega
      · rw [tkH] at h
        split at h
        · cases h1 : tkA zs with
          | error e => rw [h1] at h; injection h with h; have := hA h1; omega
          | ok y => rw [h1] at h; injection h
        · split at h
          · cases h1 : tkN 4 1073741824 zs with
            | error e => rw [h1] at h; injection h with h; have := hN h1; omega
            | ok y => rw [h1] at h; injection h
          · split at h
            · cases h1 : kidsG (tk f) 1 (k + 1) zs with
              | error e => rw [h1] at h; injection h with h; have := hK _ _ _ h1; omega
              | ok y => rw [h1] at h; injection h
            · split at h
              · cases h1 : kidsG (tk f) 2 (k + 1) zs with
                | error e => rw [h1] at h; injection h with h; have := hK _ _ _ h1; omega
                | ok y => rw [h1] at h; injection h
              · injection h with h; omega

theorem res4w {w W : World} {T : TypeId} (h : Below (w.alloc (.cells #[.int .i64 0, .int .i64 0, .string ⟨#[]⟩, .slice none 0 0] T)).heap.size (w.alloc (.cells #[.int .i64 0, .int .i64 0, .string ⟨#[]⟩, .slice none 0 0] T)) W) :
    W.cell? ⟨w.heap.size, 0, none⟩ = some (.int .i64 0) ∧ W.cell? ⟨w.heap.size, 1, none⟩ = some (.int .i64 0) ∧ W.cell? ⟨w.heap.size, 2, none⟩ = some (.string ⟨#[]⟩) ∧ W.cell? ⟨w.heap.size, 3, none⟩ = some (.slice none 0 0) ∧
      W.frozen? ⟨w.heap.size, 0, none⟩ = false ∧ W.frozen? ⟨w.heap.size, 1, none⟩ = false ∧ W.frozen? ⟨w.heap.size, 2, none⟩ = false ∧ W.frozen? ⟨w.heap.size, 3, none⟩ = false := by
  refine ⟨?_, ?_, ?_, ?_, ?_, ?_, ?_, ?_⟩
  all_goals first | rw [h.cell (by simp)] | rw [h.frozen (by simp)]
  all_goals simp [go_sem]

theorem assert_is (z : Int) (w : World) : (Instr.typeAssert (.iface 36 (.int .i64 z)) 58 36 true).run Try.prog w = .ok (.tuple #[.int .i64 z, .bool true]) w := by kernel_rfl
theorem assert_nil (w : World) : (Instr.typeAssert .nilIface 58 36 true).run Try.prog w = .ok (.tuple #[.int .i64 0, .bool false]) w := by kernel_rfl

set_option maxRecDepth 100000 in
set_option maxHeartbeats 1000000 in
theorem take_any (w : World) (A : Option Addr) (cap : Nat) (xs : List UInt8) (hy : ByAt w w.heap.size A xs) (hl : xs.length ≤ cap) (hc : cap ≤ maxLen) :
    Calls Try.prog 14 #[.slice A xs.length cap] w fun e w' => TakeEnd w xs e w' := by
  have hm : xs.length ≤ 9223372036854775807 := by unfold maxLen at hc; omega
  have has := assert_is
  have han := assert_nil
  go_enter Try.func14, Try.ntmps14
  go_wp2_with fail
  refine (node_any 16 (by omega) _ (w.heap.size + 1) A cap xs 0 w.heap.size 1 rfl ⟨by simp, by simp [go_sem], by simp [go_sem], by simp [go_sem], by simp [go_sem], hl, hc⟩ (hy.keep (Nat.le_refl _) (fun b o hb => by rw [World.cell?_alloc_past _ _ _ (by simp; omega), World.cell?_alloc_past _ _ _ (by omega)])) (by omega) (by omega)).mono ?_
  rintro e w2 ⟨h1, h2⟩
  have hsz0 : ∀ o : Obj, (w.alloc o).heap.size = w.heap.size + 1 := fun o => by simp
  cases ht : tk 16 0 xs with
  | error er =>
    obtain ⟨rfl, ho2⟩ := h1 er ht
    have HT : Hid (tk 16 0 xs = .error er) := ht
    have her := tk_er ht
    clear h1 h2 ht
    have hq : ∀ o, w2.cell? ⟨w.heap.size, o, none⟩ = (#[Value.int .i64 0, .int .i64 0, .string ⟨#[]⟩, .slice none 0 0] : Array Value)[o]? := fun o => by
      rw [ho2.cell (by simp; omega) (by simp)]; rw [World.cell?_alloc_past _ _ _ (by simp)]; simp [go_sem]
    have hqf : ∀ o, w2.frozen? ⟨w.heap.size, o, none⟩ = false := fun o => by
      rw [ho2.frozen (by simp; omega) (by simp)]; rw [World.frozen?_alloc_past _ _ _ (by simp)]; simp [go_sem]
    have r0 : w2.cell? ⟨w.heap.size, 0, none⟩ = some (.int .i64 0) := by rw [hq]; rfl
    have r1 : w2.cell? ⟨w.heap.size, 1, none⟩ = some (.int .i64 0) := by rw [hq]; rfl
    have r2 : w2.cell? ⟨w.heap.size, 2, none⟩ = some (.string ⟨#[]⟩) := by rw [hq]; rfl
    have r3 : w2.cell? ⟨w.heap.size, 3, none⟩ = some (.slice none 0 0) := by rw [hq]; rfl
    have f0 := hqf 0
    have f1 := hqf 1
    have f2 := hqf 2
    have f3 := hqf 3
    have hsz := ho2.size
    simp only [World.heap_size_alloc'] at hsz
    have hlt : w.heap.size < w2.heap.size := by omega
    clear hq hqf
    go_wp2_with fail
    refine bodyPost_ret (v := .tuple #[.agg #[.int .i64 0, .int .i64 0, .string ⟨#[]⟩, .slice none 0 0], .int .i64 0, .int .i64 (er : Int)]) (by simp [results, Try.results14, go_sem, r0, r1, r2, r3, hlt]) rfl ⟨?_, ?_⟩
    · intro er' he
      rw [HT.out] at he; injection he with he; subst he
      refine ⟨rfl, Only.toBelow (b := w.heap.size + 1) (Only.alloc (Only.set4 ((Only.alloc (Only.alloc (Only.refl _ _) _) _).trans ho2) (Nat.le_refl _) _ _ _ _) _) (by omega) (Nat.le_refl _)⟩
    · intro a l k ys he; rw [HT.out] at he; injection he
  | ok y =>
    obtain ⟨a, l, k, ys⟩ := y
    obtain ⟨v, A2, cap2, rfl, ho2, hrd, hby, hf1, A3, cap3, b3, o3, rfl, hn3, hA3, hl3⟩ := h2 a l k ys ht
    have HT : Hid (tk 16 0 xs = .ok (a, l, k, ys)) := ht
    have hly : ys.length ≤ xs.length := by rw [(tk_only ht).1]; simp
    have HA3 : Hid (flen l = 0 ∨ A3 = some ⟨b3, o3, none⟩) := hA3
    have z0 := hrd.c0
    clear h1 h2 ht hA3 hby
    have hq : ∀ o, w2.cell? ⟨w.heap.size, o, none⟩ = (#[Value.int .i64 0, .int .i64 0, .string ⟨#[]⟩, .slice none 0 0] : Array Value)[o]? := fun o => by
      rw [ho2.cell (by simp; omega) (by simp)]; rw [World.cell?_alloc_past _ _ _ (by simp)]; simp [go_sem]
    have hqf : ∀ o, w2.frozen? ⟨w.heap.size, o, none⟩ = false := fun o => by
      rw [ho2.frozen (by simp; omega) (by simp)]; rw [World.frozen?_alloc_past _ _ _ (by simp)]; simp [go_sem]
    have r0 : w2.cell? ⟨w.heap.size, 0, none⟩ = some (.int .i64 0) := by rw [hq]; rfl
    have r1 : w2.cell? ⟨w.heap.size, 1, none⟩ = some (.int .i64 0) := by rw [hq]; rfl
    have r2 : w2.cell? ⟨w.heap.size, 2, none⟩ = some (.string ⟨#[]⟩) := by rw [hq]; rfl
    have r3 : w2.cell? ⟨w.heap.size, 3, none⟩ = some (.slice none 0 0) := by rw [hq]; rfl
    have f0 := hqf 0
    have f1 := hqf 1
    have f2 := hqf 2
    have f3 := hqf 3
    have hsz := ho2.size
    simp only [World.heap_size_alloc'] at hsz
    have hlt : w.heap.size < w2.heap.size := by omega
    clear hq hqf
    have hl4 : RepG w2 (fun b => w.heap.size + 1 + 1 ≤ b ∧ b < w2.heap.size) l b3 o3 := by
      refine RepG.keep (fun b hb => ?_) (fun _ _ _ => rfl) hl3
      have h1 := hb.1
      simp only [World.heap_size_alloc'] at h1
      exact ⟨h1, hb.2⟩
    clear hl3
    have hlt1 : w.heap.size + 1 < w2.heap.size := by omega
    go_wp2_with fail
    go_region
    all_goals go_wp2_with fail
    refine bodyPost_ret (v := .tuple #[.agg #[.int .i64 a.kind, .int .i64 a.n, .string a.s, .slice A3 (flen l) cap3], .int .i64 ((xs.length : Int) - (ys.length : Int)), .int .i64 0]) (by simp [results, Try.results14, go_sem, r0, r1, r2, r3, hlt]) rfl ⟨?_, ?_⟩
    · intro er he; rw [HT.out] at he; injection he
    · intro a' l' k' ys' he
      rw [HT.out] at he; injection he with he; injection he with e1 he; injection he with e2 he; injection he with e3 e4; subst e1 e2 e3 e4
      refine ⟨_, by rw [show ((xs.length - ys.length : Nat) : Int) = (xs.length : Int) - (ys.length : Int) from by omega], Only.toBelow (b := w.heap.size + 1) (by first | exact Only.drew (Only.alloc (Only.set4 ((Only.alloc (Only.alloc (Only.refl _ _) _) _).trans ho2) (Nat.le_refl _) _ _ _ _) _) | exact Only.alloc (Only.set4 (Only.drew ((Only.alloc (Only.alloc (Only.refl _ _) _) _).trans ho2)) (Nat.le_refl _) _ _ _ _) _ | exact Only.alloc (Only.drew (Only.set4 ((Only.alloc (Only.alloc (Only.refl _ _) _) _).trans ho2) (Nat.le_refl _) _ _ _ _)) _ | exact Only.drewN (Only.alloc (Only.set4 ((Only.alloc (Only.alloc (Only.refl _ _) _) _).trans ho2) (Nat.le_refl _) _ _ _ _) _) _) (by omega) (Nat.le_refl _), hf1, A3, cap3, b3, o3, rfl, hn3, HA3.out, ?_⟩
      refine RepG.keep ?hS ?hC hl4
      case hS =>
        intro b hb
        have h1 := hb.1
        have h2 := hb.2
        exact ⟨by omega, by simp [World.setCell]; omega⟩
      case hC =>
        intro b o hb
        have h1 := hb.1
        have h2 := hb.2
        rw [World.cell?_drew, World.cell?_alloc_past _ _ _ (by simp [World.setCell]; omega), cell_set4 _ _ _ _ _ _ _ _ (by omega)]

def OneEnd (w : World) (xs : List UInt8) (e : Ending) (w' : World) : Prop :=
  (∀ er, oneB xs = .error er → e = .returned (.tuple #[.agg #[.int .i64 0, .int .i64 0, .string ⟨#[]⟩, .slice none 0 0], .int .i64 (er : Int)]) ∧ Below w.heap.size w w') ∧
  (∀ a l, oneB xs = .ok (a, l) → ∃ v, e = .returned (.tuple #[v, .int .i64 0]) ∧ Below w.heap.size w w' ∧ RepVG w' (fun b => w.heap.size ≤ b ∧ b < w'.heap.size) a l v)

set_option maxRecDepth 100000 in
set_option maxHeartbeats 1000000 in
theorem codeOne_any (w : World) (A : Option Addr) (cap : Nat) (xs : List UInt8) (hy : ByAt w w.heap.size A xs) (hl : xs.length ≤ cap) (hc : cap ≤ maxLen) :
    Calls Try.prog 16 #[.slice A xs.length cap] w fun e w' => OneEnd w xs e w' := by
  have hm : xs.length ≤ 9223372036854775807 := by unfold maxLen at hc; omega
  go_enter Try.func16, Try.ntmps16
  go_wp2_with fail
  have hb0 : ∀ T : Obj, Below w.heap.size w (w.alloc T) := fun T => Below.alloc (Below.refl _ _) (Nat.le_refl _) _
  refine (take_any _ A cap xs (hy.keep (by simp) (fun b o hb => World.cell?_alloc_past _ _ _ (by omega))) hl hc).mono ?_
  rintro e w2 ⟨h1, h2⟩
  cases ht : tk 16 0 xs with
  | error er =>
    obtain ⟨rfl, ho2⟩ := h1 er ht
    have HT : Hid (oneB xs = .error er) := by show oneB xs = _; rw [oneB, ht]
    have her := tk_er ht
    clear h1 h2 ht
    obtain ⟨r0, r1, r2, r3, f0, f1, f2, f3⟩ := res4w ho2
    have hsz := ho2.size
    simp only [World.heap_size_alloc'] at hsz
    have hlt : w.heap.size < w2.heap.size := by omega
    have hb2 : Below w.heap.size w w2 := (hb0 _).trans (ho2.mono (by simp))
    have hne : ((er : Int) == 0) = false := by simp; omega
    have hne' : ((er : Int) != 0) = true := by simp; omega
    go_wp2_with fail
    refine bodyPost_ret (v := .tuple #[.agg #[.int .i64 0, .int .i64 0, .string ⟨#[]⟩, .slice none 0 0], .int .i64 (er : Int)]) (by simp [results, Try.results16, go_sem, r0, r1, r2, r3, hlt]) rfl ⟨?_, ?_⟩
    · intro er' he
      rw [HT.out] at he; injection he with he; subst he
      exact ⟨rfl, (by repeat (first | exact Below.refl _ _ | assumption | refine below_drewN ?_ _ | refine Below.drew ?_ | refine Below.alloc ?_ (by simp <;> omega) _ | refine Below.setCell ?_ (by simp <;> omega) _))⟩
    · intro a l he; rw [HT.out] at he; injection he
  | ok y =>
    obtain ⟨a, l, k, ys⟩ := y
    obtain ⟨v, rfl, ho2, hf1, A3, cap3, b3, o3, rfl, hn3, hA3, hl3⟩ := h2 a l k ys ht
    have HT : Hid (oneB xs = if 0 < ys.length then .error 5 else .ok (a, l)) := by show oneB xs = _; rw [oneB, ht]
    have hly : ys.length ≤ xs.length := by rw [(tk_only ht).1]; simp
    have HA3 : Hid (flen l = 0 ∨ A3 = some ⟨b3, o3, none⟩) := hA3
    clear h1 h2 ht hA3
    obtain ⟨r0, r1, r2, r3, f0, f1, f2, f3⟩ := res4w ho2
    have hsz := ho2.size
    simp only [World.heap_size_alloc'] at hsz hl3
    have hlt : w.heap.size < w2.heap.size := by omega
    have hb2 : Below w.heap.size w w2 := (hb0 _).trans (ho2.mono (by simp))
    by_cases hl5 : 0 < ys.length
    · go_wp2_with fail
      refine bodyPost_ret (v := .tuple #[.agg #[.int .i64 0, .int .i64 0, .string ⟨#[]⟩, .slice none 0 0], .int .i64 5]) (by simp [results, Try.results16, go_sem, r0, r1, r2, r3, hlt]) rfl ⟨?_, ?_⟩
      · intro er' he
        rw [HT.out, if_pos hl5] at he; injection he with he; subst he
        exact ⟨rfl, (by repeat (first | exact Below.refl _ _ | assumption | refine below_drewN ?_ _ | refine Below.drew ?_ | refine Below.alloc ?_ (by simp <;> omega) _ | refine Below.setCell ?_ (by simp <;> omega) _))⟩
      · intro a l he; rw [HT.out, if_pos hl5] at he; injection he
    · have hy0 : ys.length = 0 := by omega
      rw [hy0, Nat.sub_zero]
      have hlt0 : decide ((xs.length : Int) < (xs.length : Int)) = false := by simp
      go_wp2_with fail
      refine bodyPost_ret (v := .tuple #[.agg #[.int .i64 a.kind, .int .i64 a.n, .string a.s, .slice A3 (flen l) cap3], .int .i64 0]) (by simp [results, Try.results16, go_sem, r0, r1, r2, r3, hlt]) rfl ⟨?_, ?_⟩
      · intro er he; rw [HT.out, if_neg hl5] at he; injection he
      · intro a' l' he
        rw [HT.out, if_neg hl5] at he; injection he with he; injection he with e1 e2; subst e1 e2
        refine ⟨_, rfl, (by repeat (first | exact Below.refl _ _ | assumption | refine below_drewN ?_ _ | refine Below.drew ?_ | refine Below.alloc ?_ (by simp <;> omega) _ | refine Below.setCell ?_ (by simp <;> omega) _)), hf1, A3, cap3, b3, o3, rfl, hn3, HA3.out, ?_⟩
        refine RepG.keep ?hS ?hC hl3
        case hS =>
          intro b hb
          have h1 := hb.1
          have h2 := hb.2
          exact ⟨by omega, by simp [World.setCell]; omega⟩
        case hC =>
          intro b o hb
          have h1 := hb.1
          have h2 := hb.2
          rw [World.cell?_alloc_past _ _ _ (by simp [World.setCell]; omega), cell_set4 _ _ _ _ _ _ _ _ (by omega)]

end Go.Proofs.Ytooffmmfacdjeaa
