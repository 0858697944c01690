import Derived.Test.YtanpplgmdemlaaaGreatDoorGB
import Derived.Deep.RegionHeld3
namespace Go.Proofs.YtanpplgmdemlaaaGreatDoor
open Go.RowKit
set_option linter.unusedVariables false
set_option linter.unusedSimpArgs false

/-- A place of u in the plan with a path. -/
def Hit (M : List Kd) (F : Nat → Option (Nat × List Int)) (u : Nd × Fo) : Prop := ∃ i, i < M.length ∧ nm (M.getD i kd0).t = u ∧ F i ≠ none

theorem rises_one7 {M : List Kd} (h : Rises M) {i j : Nat} (hi : i < M.length) (hj : j < M.length) (e : nm (M.getD i kd0).t = nm (M.getD j kd0).t) : i = j := by
  have h0 : ordK (M.getD i kd0) (M.getD j kd0) = 0 := nm_iff.1 e
  have h1 : ordK (M.getD j kd0) (M.getD i kd0) = 0 := nm_iff.1 e.symm
  rcases Nat.lt_trichotomy i j with k | k | k
  · have := rises_lt h k hj; omega
  · exact k
  · have := rises_lt h k hi; omega

def SOk (ms : List Mv) : Prop := ∀ m ∈ ms, m.s.size ≤ 1024
theorem SOk.app {xs ys : List Mv} (h : SOk xs) (k : SOk ys) : SOk (xs ++ ys) := fun m hm => by
  rcases List.mem_append.1 hm with h1 | h1
  · exact h m h1
  · exact k m h1
theorem SOk.one {m : Mv} (h : m.s.size ≤ 1024) : SOk [m] := fun x hx => by simp only [List.mem_singleton] at hx; rw [hx]; exact h
theorem opsM_s : ∀ (os : List Int) (i : Nat), SOk (opsM os i)
  | [], _ => fun m hm => by cases hm
  | k :: r, i => fun m hm => by
    rw [opsM] at hm
    rcases List.mem_cons.1 hm with rfl | hm
    · show (0 : Nat) ≤ 1024; omega
    · exact opsM_s r (i + 1) m hm
theorem folM_s (num : Nat) (os : List Int) (i : Nat) : SOk (folM num os i) := fun m hm => by
  rw [folM] at hm
  rcases List.mem_cons.1 hm with rfl | hm
  · show (0 : Nat) ≤ 1024; omega
  · exact opsM_s os i m hm

def ProveEnd (wS w : World) (VW : Value) (M : List Kd) (us : List (Nd × Fo)) (F : Nat → Option (Nat × List Int)) (N : Nat) (mv : Value) (ms : List Mv) (rs : List (Nd × Fo)) (a : Nd) (l : Fo) (e : Ending) (w' : World) : Prop :=
  ∃ (ms' : List Mv) (xs : List (Nd × Fo)) (u : Nd × Fo) (n : Nat), e = .returned (.int .i64 (n : Int)) ∧ n + 1 = ms'.length ∧ AddM wS w VW M us F N mv ms' w' ∧ runS us [] ms' = .ok (rs ++ xs) ∧ (rs ++ xs).getLast? = some u ∧ nm u = nm (a, l) ∧ ms.length < ms'.length ∧ ms'.length ≤ ms.length + 16 * (1 + nodesF l) ∧ SOk ms'

def ProveOk (a : Nd) (l : Fo) : Prop := ∀ (wS w : World) (VW : Value) (M : List Kd) (us : List (Nd × Fo)) (F : Nat → Option (Nat × List Int)) (N : Nat) (mv v : Value) (B : Nat) (ms : List Mv) (rs : List (Nd × Fo)),
  Sta wS VW M → PSt wS w VW M us F (fun q => N ≤ q) mv → wS.heap.size + 2 ≤ N → N ≤ w.heap.size → w.ownsRow N 39 4 mv ms.length (rowM ms) → RepV wS B a l v → B ≤ wS.heap.size → may a l = true → CanT (Hit M F) a l → runS us [] ms = .ok rs → ms.length + 16 * (1 + nodesF l) ≤ 5000 → SOk ms →
  Calls Tryz.prog 22 #[.pointer (some ⟨wS.heap.size + 1, 0, none⟩), v] w (ProveEnd wS w VW M us F N mv ms rs a l)

theorem last_get {l : List (Nd × Fo)} {u : Nd × Fo} {n : Nat} (h : l.getLast? = some u) (hn : n + 1 = l.length) : l[n]? = some u := by
  rw [List.getLast?_eq_getElem?] at h
  rw [← h, show l.length - 1 = n by omega]

theorem kid_next {K r : List (Nd × Fo)} {x : Nd × Fo} {i : Nat} (h : K = K.take i ++ x :: r) (hi : i < K.length) : K = K.take (i + 1) ++ r ∧ K[i]? = some x := by
  have hl : (K.take i).length = i := by rw [List.length_take]; omega
  have h2 : K[i]? = some x := by
    have h0 : K[i]? = (K.take i ++ x :: r)[i]? := congrArg (fun z => z[i]?) h
    rw [h0, List.getElem?_append_right (by omega), hl, Nat.sub_self]
    rfl
  refine ⟨?_, h2⟩
  have h3 := congrArg (List.drop (i + 1)) h
  rw [List.drop_append, hl, show i + 1 - i = 1 by omega, List.drop_of_length_le (l := K.take i) (by omega)] at h3
  simp only [List.nil_append, List.drop_succ_cons, List.drop_zero] at h3
  have h4 := (List.take_append_drop (i + 1) K).symm
  rw [h3] at h4
  exact h4

theorem step_kids {us qs : List (Nd × Fo)} {a : Nd} {l : Fo} {n0 n1 : Nat} (ma : may a l = true) (h1 : a.kind ≠ 1) (h2 : a.kind ≠ 2) (k0 : 1 ≤ flen l → ∃ k r, (kidL l)[0]? = some k ∧ qs[n0]? = some r ∧ nm r = nm k) (kz : flen l ≤ 1 → n1 = 0) (k1 : 2 ≤ flen l → ∃ k r, (kidL l)[1]? = some k ∧ qs[n1]? = some r ∧ nm r = nm k) :
    ∃ u, stepP us qs ⟨a.kind + 3, (n0 : Int), (n1 : Int), ⟨#[]⟩⟩ = .ok u ∧ nm u = nm (a, l) := by
  have hfc := formed_cases (may_form ma).1
  match l, hfc with
  | .nil, hfc => simp [flen] at hfc; omega
  | .node x y b m .nil, hfc =>
    obtain ⟨k, r, e1, e2, e3⟩ := k0 (by simp [flen])
    simp only [kidL] at e1
    injection e1 with e1
    subst e1
    rw [kz (by simp [flen])]
    exact step_one ma e2 e3
  | .node x y b m (.node x' y' d q .nil), hfc =>
    obtain ⟨k, r, e1, e2, e3⟩ := k0 (by simp [flen])
    obtain ⟨k', r', e4, e5, e6⟩ := k1 (by simp [flen])
    simp only [kidL] at e1 e4
    injection e1 with e1
    injection e4 with e4
    subst e1 e4
    exact step_two ma e2 e3 e5 e6
  | .node _ _ _ _ (.node _ _ _ _ (.node _ _ _ _ f)), hfc => first | (simp [flen] at hfc; done) | (simp [flen] at hfc; omega)

theorem MGrew.setFar {P : Nat} {w w4 : World} {m m' : Value} (h : MGrew P w w4 m m') (p : Addr) (hp : w.heap.size ≤ p.block) (v : Value) : MGrew P w (w4.setCell p v) m m' :=
  ⟨h.os, h.tape, h.output, by rw [size_setK]; exact h.size, fun k h1 h2 h3 => by rw [Below.heap_setCell _ _ _ _ (by omega)]; exact h.block k h1 h2 h3, h.at'⟩
theorem PSt.setFar {wS w : World} {VW : Value} {M : List Kd} {us : List (Nd × Fo)} {F : Nat → Option (Nat × List Int)} {N : Nat} {mv : Value} (h : PSt wS w VW M us F (fun q => N ≤ q) mv) (hN : wS.heap.size + 2 ≤ N) (p : Addr) (hp : N ≤ p.block) (v : Value) : PSt wS (w.setCell p v) VW M us F (fun q => N ≤ q) mv := by
  have hf : ∀ q, q < N → (w.setCell p v).heap[q]? = w.heap[q]? := fun q hq => Below.heap_setCell _ _ _ _ (by omega)
  refine h.keep (h.below.trans ⟨rfl, rfl, rfl, by rw [size_setK]; exact Nat.le_refl _, fun q hq => hf q (by omega)⟩) (by rw [size_setK]; exact Nat.le_refl _) (hf _ (by omega)) (hf _ (by omega)) (fun q h1 h2 h3 => ⟨hf q (by omega), h3⟩)

def KRel (wS w2 : World) (VW : Value) (M : List Kd) (us : List (Nd × Fo)) (F : Nat → Option (Nat × List Int)) (N : Nat) (mv : Value) (ms : List Mv) (rs : List (Nd × Fo)) (B : Nat) (l : Fo) (b o : Nat) (iv : Value) (wr : World) : Prop :=
  ∃ (i : Nat) (g : Fo) (ms1 : List Mv) (xs : List (Nd × Fo)) (n0 n1 : Nat) (mv1 : Value), iv = .int .i64 (i : Int) ∧ i + flen g = flen l ∧ AllF ProveOk g ∧ AMay g ∧ RepF wS B g b (o + i * 4) ∧ CanF (Hit M F) g ∧
    (PSt wS wr VW M us F (fun q => N ≤ q) mv1 ∧ wr.ownsRow N 39 4 mv1 ms1.length (rowM ms1) ∧ MGrew (wS.heap.size + 1) w2 wr mv mv1 ∧ mv1.ownBlock ≠ some w2.heap.size ∧ w2.heap.size < wr.heap.size) ∧
    runS us [] ms1 = .ok (rs ++ xs) ∧ ms.length ≤ ms1.length ∧ ms1.length + 16 * nodesF g ≤ ms.length + 16 * nodesF l ∧
    (wr.cell? ⟨w2.heap.size, 0, none⟩ = some (.int .i64 (n0 : Int)) ∧ wr.cell? ⟨w2.heap.size, 1, none⟩ = some (.int .i64 (n1 : Int)) ∧ ∀ j, wr.frozen? ⟨w2.heap.size, j, none⟩ = false) ∧ kidL l = (kidL l).take i ++ kidL g ∧
    (1 ≤ i → ∃ k r, (kidL l)[0]? = some k ∧ (rs ++ xs)[n0]? = some r ∧ nm r = nm k) ∧ (i ≤ 1 → n1 = 0) ∧ (2 ≤ i → ∃ k r, (kidL l)[1]? = some k ∧ (rs ++ xs)[n1]? = some r ∧ nm r = nm k) ∧ SOk ms1

set_option maxRecDepth 100000 in
set_option maxHeartbeats 2000000 in
theorem prove_step (a : Nd) (l : Fo) (ih : AllF ProveOk l) : ProveOk a l := by
  rintro wS w VW M us F N mv v B ms rs hst hp hN hNw hown ⟨hf, TA, cap, b, o, rfl, hn, hA, hr⟩ hB ma hcan hrun hlen hso
  have HV : Hid (RepV wS B a l (.agg #[.int .i64 a.kind, .int .i64 a.n, .string a.s, .slice TA (flen l) cap])) := ⟨hf, TA, cap, b, o, rfl, hn, hA, hr⟩
  have HST : Hid (Sta wS VW M) := hst
  have HCAN : Hid (CanT (Hit M F) a l) := hcan
  have HRUN : Hid (runS us [] ms = .ok rs) := hrun
  have HSO : Hid (SOk ms) := hso
  have HA : Hid (flen l = 0 ∨ TA = some ⟨b, o, none⟩) := hA
  have HR : Hid (RepF wS B l b o) := hr
  have HIH : Hid (AllF ProveOk l) := ih
  have HVK : Hid (∀ q, mv.ownBlock = some q → N ≤ q ∧ q < w.heap.size) := hown.lt
  have hS := hp.size
  have hb0 : Below w.heap.size w (w.alloc (.cells #[.int .i64 a.kind, .int .i64 a.n, .string a.s, .slice TA (flen l) cap] 27)) := Below.alloc (Below.refl _ _) (Nat.le_refl _) _
  have hbx0 := Box4.new w (.int .i64 a.kind) (.int .i64 a.n) (.string a.s) (.slice TA (flen l) cap) 27
  have HP0 : Hid (PSt wS _ VW M us F (fun q => N ≤ q) mv ∧ World.ownsRow _ N 39 4 mv ms.length (rowM ms) ∧ Below w.heap.size w _) := ⟨hp.belowW hb0, owns_below hown hb0, hb0⟩
  have hrl := runS_len ms [] rs hrun
  have HRL : Hid (rs.length = ms.length) := by
    show rs.length = ms.length
    simpa using hrl
  clear hso hA hr hst hcan hrun ih hp hown hb0 hrl
  go_enter Tryz.func22, Tryz.ntmps22
  go_upto_region 1 with fail
  generalize w.alloc (.cells #[.int .i64 a.kind, .int .i64 a.n, .string a.s, .slice TA (flen l) cap] 27) = w0 at *
  have hs0 : N ≤ w0.heap.size := by have := HP0.out.2.2.size; omega
  obtain ⟨x0, x1, x2, x3, x4⟩ := hbx0
  by_cases h1 : a.kind = 1
  · have e1 : (a.kind == 1) = true := by simp [h1]
    have k1 := padd_any (⟨2, 0, 0, a.s⟩ : Mv) ms HP0.out.1 hN hs0 HP0.out.2.1 (by omega)
    have HK1 : Hid (a.kind = 1) := h1
    clear h1
    go_wp2_with fail
    refine k1.mono ?_
    rintro e w1 ⟨rfl, mv1, hp1, ho1, hg1⟩
    have HE : Hid (ProveEnd wS w VW M us F N mv ms rs a l (.returned (.int .i64 (ms.length : Int))) w1) := by
      have hst := step_atom (us := us) (rs := rs) ma HK1.out
      refine ⟨ms ++ [⟨2, 0, 0, a.s⟩], [(a, .nil)], (a, .nil), ms.length, rfl, by simp, ⟨mv1, hp1, ho1, hg1.pre HP0.out.2.2⟩, ?_, by simp, hst.2.symm ▸ rfl, by simp, by simp; omega, HSO.out.app (SOk.one (by have hfc := formed_cases (may_form ma).1; have h1 := HK1.out; show a.s.size ≤ 1024; omega))⟩
      rw [runS_append, HRUN.out]
      simp only [runS, hst.1]
    clear hp1 ho1 hg1
    go_wp2_with fail
    go_ret
    exact HE.out
  · have e1 : (a.kind == 1) = false := by simp [h1]
    have HK1 : Hid (¬ a.kind = 1) := h1
    have e0 := HP0.out.1.p0
    have hPlt : wS.heap.size + 1 < w0.heap.size := by omega
    have k1 : ∀ W, Below w0.heap.size w0 W → Calls Tryz.prog 40 #[VW, .agg #[.int .i64 a.kind, .int .i64 a.n, .string a.s, .slice TA (flen l) cap], .func (.func 41) #[] #[]] W (BsEnd M a l W) := fun W hW => by
      have hbS : Below wS.heap.size wS W := HP0.out.1.below.trans (hW.mono (by omega))
      exact bs_any M VW a l _ B W (HST.out.sl.below hbS) HST.out.all HST.out.rises HST.out.len (HV.out.below (hbS.mono hB)) (by have := hbS.size; omega) ma
    have HS0 : Hid (∀ W, Below w0.heap.size w0 W → (W.cell? ⟨wS.heap.size + 1, 0, none⟩ = some VW ∧ W.cell? ⟨w.heap.size, 0, none⟩ = some (.int .i64 a.kind) ∧ W.cell? ⟨w.heap.size, 1, none⟩ = some (.int .i64 a.n) ∧ W.cell? ⟨w.heap.size, 2, none⟩ = some (.string a.s) ∧ W.cell? ⟨w.heap.size, 3, none⟩ = some (.slice TA (flen l) cap)) ∧ Below w0.heap.size w0 W) := fun W hW =>
      ⟨⟨(hW.cell hPlt).trans e0, (hW.cell x0).trans x1, (hW.cell x0).trans x2, (hW.cell x0).trans x3, (hW.cell x0).trans x4⟩, hW⟩
    clear h1
    go_upto_region 3 with fail
    go_region_held3 (fun W => (W.cell? ⟨wS.heap.size + 1, 0, none⟩ = some VW ∧ W.cell? ⟨w.heap.size, 0, none⟩ = some (.int .i64 a.kind) ∧ W.cell? ⟨w.heap.size, 1, none⟩ = some (.int .i64 a.n) ∧ W.cell? ⟨w.heap.size, 2, none⟩ = some (.string a.s) ∧ W.cell? ⟨w.heap.size, 3, none⟩ = some (.slice TA (flen l) cap)) ∧ Below w0.heap.size w0 W)
      (first | assumption | exact HS0.out _ (Below.drew (Below.refl _ _)) | exact HS0.out _ h2)
      ((go_at_call 40; refine (k1 _ (Below.drew (Below.refl _ _))).mono ?_; rintro e w2 ⟨i, is, rfl, h2', hyes, hno⟩; have h2 : Below w0.heap.size w0 w2 := Below.trans (Below.drew (Below.refl _ _)) h2'))
    have HYN : Hid ((is = true → i < M.length ∧ ordT (M.getD i kd0).a (M.getD i kd0).l a l = 0) ∧ (is = false → ∀ k, k < M.length → ordT (M.getD k kd0).a (M.getD k kd0).l a l ≠ 0)) := ⟨hyes, hno⟩
    have HP2 : Hid (PSt wS w2 VW M us F (fun q => N ≤ q) mv ∧ w2.ownsRow N 39 4 mv ms.length (rowM ms) ∧ Below w.heap.size w w2) := ⟨HP0.out.1.belowW h2, owns_below HP0.out.2.1 h2, below_tr HP0.out.2.2 h2⟩
    have hbx2 : Box4 w2 w.heap.size (.int .i64 a.kind) (.int .i64 a.n) (.string a.s) (.slice TA (flen l) cap) := Box4.below ⟨x0, x1, x2, x3, x4⟩ h2
    have hs2 : N ≤ w2.heap.size := by have := h2.size; omega
    clear hyes hno h2 h2' HS0 k1 x0 x1 x2 x3 x4 e0 HP0 hPlt e1 hs0
    -- whether a path is there
    by_cases hfound : is = true ∧ (F i).isSome = true
    · obtain ⟨rfl, hfs⟩ := hfound
      obtain ⟨hi, ho⟩ := HYN.out.1 rfl
      obtain ⟨p, hFp⟩ := Option.isSome_iff_exists.1 hfs
      have hrow := HP2.out.1.row i hi
      rw [hFp] at hrow
      obtain ⟨c0, c1, ov, c2, hiv⟩ := hrow
      have hpok := HP2.out.1.ok i hi p hFp
      have hp1 := HP2.out.1.p1
      have hi1 : (i : Int) < (M.length : Int) := by omega
      have hi0 : (0 : Int) ≤ (i : Int) := by omega
      have hpl : wS.heap.size < w2.heap.size := by omega
      have k1 := follow_any p.1 p.2 true ms HP2.out.1 hN hs2 HP2.out.2.1 (by omega) hiv (by have := hpok.2.1; omega)
      have HPOK : Hid (PathOk us (a, l) p.1 p.2) := by
        obtain ⟨q1, q2, s, u, q3, q4, q5, q6⟩ := hpok
        exact ⟨q1, q2, s, u, q3, q4, q5, q6.trans (nm_iff.2 ho)⟩
      obtain ⟨OA, oc, rfl, _⟩ := hiv
      clear hpok ho hfs hFp hi HYN
      go_wp2_with fail
      refine k1.mono ?_
      rintro e w3 ⟨rfl, mv1, hp3, ho3, hg3⟩
      have HE : Hid (ProveEnd wS w VW M us F N mv ms rs a l (.returned (.int .i64 ((ms.length + p.2.length : Nat) : Int))) w3) := by
        obtain ⟨xs, u, r1, r2, r3⟩ := folM_run (rs := rs) HPOK.out
        rw [HRL.out] at r1
        have hp15 := HPOK.out.2.1
        refine ⟨ms ++ folM p.1 p.2 ms.length, xs, u, ms.length + p.2.length, rfl, by rw [List.length_append, folM_len]; omega, ⟨mv1, hp3, ho3, hg3.pre HP2.out.2.2⟩, ?_, r2, r3, by rw [List.length_append, folM_len]; omega, by rw [List.length_append, folM_len]; omega, HSO.out.app (folM_s _ _ _)⟩
        rw [runS_append, HRUN.out]
        exact r1
      clear hp3 ho3 hg3 k1
      go_wp2_with fail
      go_ret
      exact HE.out
    · have HNF : Hid (¬ (is = true ∧ (F i).isSome = true)) := hfound
      have HCF : Hid (a.kind ≠ 2 ∧ CanF (Hit M F) l) := by
        rcases HCAN.out with h | ⟨j, hj, hje, hjF⟩ | h
        · exact absurd h HK1.out
        · exfalso
          have h0 : ordT (M.getD j kd0).a (M.getD j kd0).l a l = 0 := nm_iff.1 hje
          cases hx : is with
          | false => exact HYN.out.2 hx j hj h0
          | true =>
            obtain ⟨hi, ho⟩ := HYN.out.1 hx
            have hji : j = i := rises_one7 HST.out.rises hj hi (hje.trans (nm_iff.2 ho).symm)
            subst hji
            refine HNF.out ⟨hx, ?_⟩
            cases hF : F j with
            | none => exact absurd hF hjF
            | some p => rfl
        · exact h
      clear hfound
      go_upto_region 4 with fail
      go_cut [37] (fun pv wx => pv = .bool false ∧ wx = w2)
      case first =>
        cases is
        · go_wp2_with fail
          go_meet
          exact ⟨rfl, rfl⟩
        · obtain ⟨hi, ho⟩ := HYN.out.1 rfl
          have hF : F i = none := by
            cases hF : F i with
            | none => rfl
            | some p => exact absurd ⟨rfl, by rw [hF]; rfl⟩ HNF.out
          have hrow := HP2.out.1.row i hi
          rw [hF] at hrow
          obtain ⟨c0, c1, c2⟩ := hrow
          have hp1 := HP2.out.1.p1
          have hi1 : (i : Int) < (M.length : Int) := by omega
          have hi0 : (0 : Int) ≤ (i : Int) := by omega
          have hpl : wS.heap.size < w2.heap.size := by omega
          clear ho hF hi
          go_wp2_with fail
          go_meet
          exact ⟨by simp, rfl⟩
      case rest =>
        obtain ⟨rfl, hwc⟩ := hcut
        subst hwc
        obtain ⟨x0, x1, x2, x3, x4⟩ := hbx2
        have hal : Below wc.heap.size wc (wc.alloc (.cells #[.int .i64 0, .int .i64 0] 85)) := Below.alloc (Below.refl _ _) (Nat.le_refl _) _
        have hP3 := HP2.out.1.belowW hal
        have hO3 := owns_below HP2.out.2.1 hal
        have hwwc := HP2.out.2.2.size
        have HSTA : Hid (KRel wS wc VW M us F N mv ms rs B l b o (.int .i64 0) (wc.alloc (.cells #[.int .i64 0, .int .i64 0] 85))) := by
          refine ⟨0, l, ms, [], 0, 0, mv, rfl, by omega, HIH.out, may_amay ma, by rw [show o + 0 * 4 = o by omega]; exact HR.out, HCF.out.2, ⟨hP3, hO3, (MGrew.refl _ _ _).post hal, fun e => by have := HVK.out _ e; omega, by simp⟩, by rw [List.append_nil]; exact HRUN.out, Nat.le_refl _, Nat.le_refl _, ⟨by simp [go_sem], by simp [go_sem], fun j => by simp [go_sem]⟩, by simp, fun h => by omega, fun _ => rfl, fun h => by omega, HSO.out⟩
        have hnw : wc.heap.size < (wc.alloc (.cells #[.int .i64 0, .int .i64 0] 85)).heap.size := by simp
        clear HYN HNF hal hP3 hO3
        go_wp2_with fail
        go_loopw [50] (fun iv wr => KRel wS wc VW M us F N mv ms rs B l b o iv wr) (fun iv _ => flen l - (intOf iv).toNat)
        case atStart => exact HSTA.out
        case round =>
          obtain ⟨i1, g, ms1, xs, n0, n1, mv1, rfl, hi1, hg, hag, hrg, hcf, hst1, hrun1, hl1, hl2, ⟨c0, c1, cf⟩, hkid, hk0, hk1, hk2, hso1⟩ := hrel
          have HSO1 : Hid (SOk ms1) := hso1
          clear hso1
          have HAG : Hid (AMay g) := hag
          have HG : Hid (AllF ProveOk g) := hg
          have HRG : Hid (RepF wS B g b (o + i1 * 4)) := hrg
          have HC1 : Hid (CanF (Hit M F) g) := hcf
          have HS1 : Hid (PSt wS wr VW M us F (fun q => N ≤ q) mv1 ∧ wr.ownsRow N 39 4 mv1 ms1.length (rowM ms1) ∧ MGrew (wS.heap.size + 1) wc wr mv mv1 ∧ mv1.ownBlock ≠ some wc.heap.size ∧ wc.heap.size < wr.heap.size) := hst1
          have HRUN1 : Hid (runS us [] ms1 = .ok (rs ++ xs)) := hrun1
          have HKID : Hid (kidL l = (kidL l).take i1 ++ kidL g) := hkid
          have HKS : Hid ((1 ≤ i1 → ∃ k r, (kidL l)[0]? = some k ∧ (rs ++ xs)[n0]? = some r ∧ nm r = nm k) ∧ (i1 ≤ 1 → n1 = 0) ∧ (2 ≤ i1 → ∃ k r, (kidL l)[1]? = some k ∧ (rs ++ xs)[n1]? = some r ∧ nm r = nm k)) := ⟨hk0, hk1, hk2⟩
          have hsr := hst1.2.2.1.size
          have hnb := hst1.2.2.2.2
          have hfl2 : flen l ≤ 2 := by rcases formed_cases (may_form ma).1 with h | h | h | h <;> omega
          -- the box of t
          have hbox : ∀ j, wr.cell? ⟨w.heap.size, j, none⟩ = wc.cell? ⟨w.heap.size, j, none⟩ := fun j => World.cell?_of_block (a := ⟨w.heap.size, j, none⟩) (hst1.2.2.1.block w.heap.size x0 (by omega) (fun e => by have := HVK.out _ e; omega))
          have y1 := (hbox 0).trans x1
          clear hag hg hrg hcf hst1 hrun1 hkid hk0 hk1 hk2 HSTA hbox
          cases g with
          | nil =>
            simp only [flen] at hi1
            simp only [nodesF] at hl2
            obtain rfl : i1 = flen l := by omega
            have kb : ∀ W, Calls Tryz.prog 47 #[.int .i64 a.kind] W fun e w' => e = .returned (.int .i64 (a.kind + 3)) ∧ Below W.heap.size W w' := fun W => by
              have hk := formed_cases (may_form ma).1
              have h1 := HK1.out
              have h2 := HCF.out.1
              exact builder_any a.kind (by omega) (by omega) W
            have HKB : Hid (∀ W, Calls Tryz.prog 47 #[.int .i64 a.kind] W fun e w' => e = .returned (.int .i64 (a.kind + 3)) ∧ Below W.heap.size W w') := kb
            have HADD : Hid (∀ W, Below wr.heap.size wr W → Calls Tryz.prog 45 #[.pointer (some ⟨wS.heap.size + 1, 0, none⟩), .agg #[.int .i64 (a.kind + 3), .int .i64 (n0 : Int), .int .i64 (n1 : Int), .string ⟨#[]⟩]] W fun e w' => e = .returned (.int .i64 (ms1.length : Int)) ∧ AddM wS W VW M us F N mv1 (ms1 ++ [(⟨a.kind + 3, (n0 : Int), (n1 : Int), ⟨#[]⟩⟩ : Mv)]) w') := fun W hW =>
              padd_any (⟨a.kind + 3, (n0 : Int), (n1 : Int), ⟨#[]⟩⟩ : Mv) ms1 (HS1.out.1.belowW hW) hN (by have := hW.size; omega) (owns_below HS1.out.2.1 hW) (by omega)
            have HSB : Hid (∀ W : World, W.heap[w.heap.size]? = wr.heap[w.heap.size]? → W.heap[wc.heap.size]? = wr.heap[wc.heap.size]? → W.cell? ⟨w.heap.size, 0, none⟩ = some (.int .i64 a.kind) ∧ W.cell? ⟨wc.heap.size, 0, none⟩ = some (.int .i64 (n0 : Int)) ∧ W.cell? ⟨wc.heap.size, 1, none⟩ = some (.int .i64 (n1 : Int))) := fun W h1 h2 =>
              ⟨(World.cell?_of_block (a := ⟨w.heap.size, 0, none⟩) h1).trans y1, (World.cell?_of_block (a := ⟨wc.heap.size, 0, none⟩) h2).trans c0, (World.cell?_of_block (a := ⟨wc.heap.size, 1, none⟩) h2).trans c1⟩
            have hxr : w.heap.size < wr.heap.size := by omega
            have HNE : Hid (mv1.ownBlock ≠ some w.heap.size ∧ mv1.ownBlock ≠ some wc.heap.size) := ⟨fun e => by
              rcases HS1.out.2.2.1.at' _ e with h | h
              · have := HVK.out _ h; omega
              · omega, HS1.out.2.2.2.1⟩
            clear kb y1 c0 c1 cf
            go_wp2_with fail
            go_region_held3 (fun W => W.cell? ⟨w.heap.size, 0, none⟩ = some (.int .i64 a.kind) ∧ W.cell? ⟨wc.heap.size, 0, none⟩ = some (.int .i64 (n0 : Int)) ∧ W.cell? ⟨wc.heap.size, 1, none⟩ = some (.int .i64 (n1 : Int)))
              (first | assumption | exact HSB.out _ rfl rfl | exact HSB.out _ (h5.block _ hxr) (h5.block _ hnb))
              (first
                | (go_at_call 47; refine (HKB.out _).mono ?_; rintro e w5 ⟨rfl, h5'⟩; have h5 : Below wr.heap.size wr w5 := Below.trans (Below.drew (Below.refl _ _)) h5')
                | (go_at_call 45; refine (HADD.out _ h5).mono ?_; rintro e w6 ⟨rfl, mv6, hp6, ho6, hg6⟩; have hs5 := h5.size; have S6 := HSB.out w6 ((hg6.block _ (by omega) (by omega) HNE.out.1).trans (h5.block _ hxr)) ((hg6.block _ (by omega) (by omega) HNE.out.2).trans (h5.block _ hnb))))
            have HE : Hid (ProveEnd wS w VW M us F N mv ms rs a l (.returned (.int .i64 (ms1.length : Int))) w6) := by
              obtain ⟨u, hu, hnu⟩ := step_kids (us := us) ma HK1.out HCF.out.1 HKS.out.1 HKS.out.2.1 HKS.out.2.2
              refine ⟨ms1 ++ [(⟨a.kind + 3, (n0 : Int), (n1 : Int), ⟨#[]⟩⟩ : Mv)], xs ++ [u], u, ms1.length, rfl, by simp, ⟨mv6, hp6, ho6, (HS1.out.2.2.1.trans (hg6.pre h5)).pre HP2.out.2.2⟩, ?_, by simp, hnu, by simp; omega, by simp; omega, HSO1.out.app (SOk.one (by show (0 : Nat) ≤ 1024; omega))⟩
              rw [runS_append, HRUN1.out]
              simp only [runS, hu, List.append_assoc]
            clear hp6 ho6 hg6 S6 h5 h5'
            go_wp2_with fail
            go_ret
            exact HE.out
          | node b1 o1 a1 l1 q1 =>
            obtain ⟨hb1', hf1, e0, e1, e2, ⟨A1, cap1, b2, o2, e3, hn1, hA1, hl1'⟩, hr1⟩ := HRG.out
            have HW1 := HG.out
            obtain ⟨hw1, hgr1⟩ := HW1
            have HMM := HAG.out
            obtain ⟨hm1, hml1, hmr1⟩ := HMM
            obtain ⟨hct, hcr⟩ := (CanF_node _ _ _ _ _ _).1 HC1.out
            simp only [flen] at hi1
            simp only [nodesF] at hl2
            obtain rfl : TA = some ⟨b, o, none⟩ := by rcases HA.out with h | h; omega; exact h
            have hcl : ∀ j, wr.cell? ⟨b, j, none⟩ = wS.cell? ⟨b, j, none⟩ := fun j => HS1.out.1.below.cell (by simp; omega)
            have d0 := (hcl _).trans e0
            have d1 := (hcl _).trans e1
            have d2 := (hcl _).trans e2
            have d3 := (hcl _).trans e3
            have hba : Below wr.heap.size wr (wr.alloc (.cells #[.int .i64 a1.kind, .int .i64 a1.n, .string a1.s, .slice A1 (flen l1) cap1] 27)) := Below.alloc (Below.refl _ _) (Nat.le_refl _) _
            have k1 := hw1 wS (wr.alloc (.cells #[.int .i64 a1.kind, .int .i64 a1.n, .string a1.s, .slice A1 (flen l1) cap1] 27)) VW M us F N mv1 _ B ms1 (rs ++ xs) HST.out (HS1.out.1.belowW hba) hN (by simp; omega) (owns_below HS1.out.2.1 hba) ⟨hf1, A1, cap1, b2, o2, rfl, hn1, hA1, hl1'⟩ hB hm1 hct HRUN1.out (by omega) HSO1.out
            have hKl : i1 < (kidL l).length := by rw [kidL_length]; omega
            have HKN : Hid (_ ∧ _) := kid_next HKID.out hKl
            have HBA : Hid (Below wr.heap.size wr _) := hba
            have HRST : Hid (AllF ProveOk q1 ∧ AMay q1 ∧ RepF wS B q1 b (o + i1 * 4 + 4) ∧ CanF (Hit M F) q1) := ⟨hgr1, hmr1, hr1, hcr⟩
            have hi2 : (i1 : Int) < 2 := by omega
            have hin : (i1 : Int) < (flen l : Int) := by omega
            have hi0 : (0 : Int) ≤ (i1 : Int) := by omega
            clear hcl e0 e1 e2 e3 hw1 hgr1 hm1 hml1 hmr1 hct hcr hr1 hl1' hA1 hba y1
            go_wp2_with fail
            refine k1.mono ?_
            rintro e w4 ⟨ms2, ys, u, n, rfl, hn2, ⟨mv2, hp2, ho2, hg2⟩, hrun2, hlast, hnm, hlt, hle, hso2⟩
            have HSO2 : Hid (SOk ms2) := hso2
            clear hso2
            have hs4 := hg2.size
            simp only [World.heap_size_alloc'] at hs4
            have hnbk : w4.heap[wc.heap.size]? = wr.heap[wc.heap.size]? := (hg2.block _ (by simp; omega) (by omega) HS1.out.2.2.2.1).trans (HBA.out.block _ hnb)
            have g0 := (World.cell?_of_block (a := ⟨wc.heap.size, 0, none⟩) hnbk).trans c0
            have g1 := (World.cell?_of_block (a := ⟨wc.heap.size, 1, none⟩) hnbk).trans c1
            have gf : ∀ j, w4.frozen? ⟨wc.heap.size, j, none⟩ = false := fun j => (World.frozen?_of_block (a := ⟨wc.heap.size, j, none⟩) hnbk).trans (cf j)
            have hne2 : mv2.ownBlock ≠ some wc.heap.size := fun e => by
              rcases hg2.at' _ e with h | h
              · exact HS1.out.2.2.2.1 h
              · simp at h; omega
            have hlast' : (rs ++ xs ++ ys)[n]? = some u := last_get hlast (by
              have := runS_len ms2 [] _ hrun2
              simp at this ⊢; omega)
            have HF : Hid (∀ j, j < 2 → (PSt wS (w4.setCell ⟨wc.heap.size, j, none⟩ (.int .i64 (n : Int))) VW M us F (fun q => N ≤ q) mv2 ∧ (w4.setCell ⟨wc.heap.size, j, none⟩ (.int .i64 (n : Int))).ownsRow N 39 4 mv2 ms2.length (rowM ms2) ∧ MGrew (wS.heap.size + 1) wc (w4.setCell ⟨wc.heap.size, j, none⟩ (.int .i64 (n : Int))) mv mv2 ∧ mv2.ownBlock ≠ some wc.heap.size ∧ wc.heap.size < (w4.setCell ⟨wc.heap.size, j, none⟩ (.int .i64 (n : Int))).heap.size)) := fun j _ =>
              ⟨hp2.setFar hN _ (by show N ≤ wc.heap.size; omega) _, owns_far ho2 (fun k hk => Below.heap_setCell _ _ _ _ (fun e => hne2 (by rw [hk, e]))), (HS1.out.2.2.1.trans (hg2.pre HBA.out)).setFar _ (Nat.le_refl _) _, hne2, by rw [size_setK]; omega⟩
            have HX : Hid (runS us [] ms2 = .ok (rs ++ (xs ++ ys)) ∧ (rs ++ (xs ++ ys))[n]? = some u ∧ nm u = nm (a1, l1)) := ⟨by rw [← List.append_assoc]; exact hrun2, by rw [← List.append_assoc]; exact hlast', hnm⟩
            have HOLD : Hid (∀ (k : Nat) (r : Nd × Fo), (rs ++ xs)[k]? = some r → (rs ++ (xs ++ ys))[k]? = some r) := fun k r h => by
              rw [← List.append_assoc, List.getElem?_append_left (List.getElem?_eq_some_iff.1 h).1]; exact h
            have hgf0 := gf 0
            have hgf1 := gf 1
            have HGF : Hid (∀ j, w4.frozen? ⟨wc.heap.size, j, none⟩ = false) := gf
            clear hp2 ho2 hg2 hrun2 hlast hlast' hnm hne2 hnbk k1 d0 d1 d2 d3 c0 c1 cf gf
            rcases (show i1 = 0 ∨ i1 = 1 by omega) with rfl | rfl
            · go_wp2_with fail
              go_roundw
              case rel =>
                refine ⟨1, q1, ms2, xs ++ ys, n, n1, mv2, by go_num, by omega, HRST.out.1, HRST.out.2.1, by have := HRST.out.2.2.1; simpa using this, HRST.out.2.2.2, HF.out 0 (by omega), HX.out.1, by omega, by omega, ⟨World.cell?_setCell_same _ _ _ g0, by rw [World.cell?_setCell_other _ _ _ _ (by simp)]; exact g1, fun j => by rw [World.frozen?_setCell]; exact HGF.out j⟩, HKN.out.1, fun _ => ⟨_, u, HKN.out.2, HX.out.2⟩, fun _ => HKS.out.2.1 (by omega), fun h => by omega, HSO2.out⟩
              case measure => simp [intOf]; omega
            · go_wp2_with fail
              go_roundw
              case rel =>
                obtain ⟨k, r, q0, q2, q3⟩ := HKS.out.1 (by omega)
                refine ⟨2, q1, ms2, xs ++ ys, n0, n, mv2, by go_num, by omega, HRST.out.1, HRST.out.2.1, by have := HRST.out.2.2.1; rw [show o + 2 * 4 = o + 1 * 4 + 4 by omega]; exact this, HRST.out.2.2.2, HF.out 1 (by omega), HX.out.1, by omega, by omega, ⟨by rw [World.cell?_setCell_other _ _ _ _ (by simp)]; exact g0, World.cell?_setCell_same _ _ _ g1, fun j => by rw [World.frozen?_setCell]; exact HGF.out j⟩, HKN.out.1, fun _ => ⟨k, r, q0, HOLD.out _ _ q2, q3⟩, fun h => by omega, fun _ => ⟨_, u, HKN.out.2, HX.out.2⟩, HSO2.out⟩
              case measure => simp [intOf]; omega

theorem prove_all : ∀ f : Fo, AllF ProveOk f
  | .nil => trivial
  | .node _ _ a l r => ⟨prove_step a l (prove_all l), prove_all r⟩
theorem prove_any (a : Nd) (l : Fo) : ProveOk a l := prove_step a l (prove_all l)

end Go.Proofs.YtanpplgmdemlaaaGreatDoor

namespace Go.Proofs.YtanpplgmdemlaaaGreatDoor
open Go.RowKit
set_option linter.unusedVariables false
set_option linter.unusedSimpArgs false

def WayEnd (w : World) (us : List (Nd × Fo)) (a : Nd) (l : Fo) (e : Ending) (w' : World) : Prop :=
  Below w.heap.size w w' ∧ ((¬ Knows us a l ∧ e = .returned (.tuple #[.slice none 0 0, .bool false])) ∨ (Knows us a l ∧ ∃ (ms : List Mv) (MA : Option Addr) (mc : Nat) (rs : List (Nd × Fo)) (u : Nd × Fo), e = .returned (.tuple #[.slice MA ms.length mc, .bool true]) ∧ MvsAt w' w'.heap.size ms MA ∧ ms.length ≤ 1024 ∧ runS us [] ms = .ok rs ∧ rs.getLast? = some u ∧ nm u = nm (a, l) ∧ SOk ms))

def WRel (wS w : World) (VW : Value) (M : List Kd) (us : List (Nd × Fo)) (iv : Value) (wr : World) : Prop :=
  ∃ (n : Nat) (F : Nat → Option (Nat × List Int)), iv = .int .i64 (n : Int) ∧ n ≤ us.length ∧ PSt wS wr VW M us F (fun _ => False) (.slice none 0 0) ∧ ∀ i t, i < n → us[i]? = some t → CovT (HitAll M F) t

theorem tms_get {ks : List Kd} {n : Nat} (h : n < ks.length) : (tms ks)[n]? = some (ks.getD n kd0).t := by
  simp [tms, List.getD, List.getElem?_eq_getElem h]

set_option maxRecDepth 100000 in
set_option maxHeartbeats 2000000 in
theorem way_any (ks : List Kd) (lv : Value) (a : Nd) (l : Fo) (v : Value) (B : Nat) (w : World) (h : SlT w lv ks) (hk : ∀ k ∈ ks, may k.a k.l = true) (hN : nodesK ks ≤ 50000) (hl : ks.length ≤ 1000) (hv : RepV w B a l v) (hB : B ≤ w.heap.size) (ma : may a l = true) (htab : Tab10 w.heap.size w) :
    Calls Tryz.prog 7 #[lv, v] w (WayEnd w (tms ks) a l) := by
  obtain ⟨hf, TA, cap, b, o, rfl, hn, hA, hr⟩ := hv
  obtain ⟨LA, lc, rfl, hrow⟩ := h.len
  have HV : Hid (RepV w B a l (.agg #[.int .i64 a.kind, .int .i64 a.n, .string a.s, .slice TA (flen l) cap])) := ⟨hf, TA, cap, b, o, rfl, hn, hA, hr⟩
  have HROW : Hid (ks.length = 0 ∨ ∃ g, LA = some ⟨g, 0, none⟩ ∧ RowT w g ks) := hrow
  have HSL : Hid (SlT w (.slice LA ks.length lc) ks) := h
  have HMK : Hid (∀ k ∈ ks, may k.a k.l = true) := hk
  have HTB : Hid (Tab10 w.heap.size w) := htab
  have hb0 : Below w.heap.size w (w.alloc (.cells #[.int .i64 a.kind, .int .i64 a.n, .string a.s, .slice TA (flen l) cap] 27)) := Below.alloc (Below.refl _ _) (Nat.le_refl _) _
  have hbx0 := Box4.new w (.int .i64 a.kind) (.int .i64 a.n) (.string a.s) (.slice TA (flen l) cap) 27
  have k1 := knowCan_any ks _ a l _ B _ (h.below hb0) hk hN hl (HV.out.below (hb0.mono hB)) (by simp; omega) ma (htab.keep hb0)
  have HB0 : Hid (Below w.heap.size w _) := hb0
  clear h hrow hA hr hk htab hb0
  go_enter Tryz.func7, Tryz.ntmps7
  go_upto_region 1 with fail
  generalize w.alloc (.cells #[.int .i64 a.kind, .int .i64 a.n, .string a.s, .slice TA (flen l) cap] 27) = w0 at *
  obtain ⟨x0, x1, x2, x3, x4⟩ := hbx0
  go_wp2_with fail
  refine k1.mono ?_
  rintro e w1 ⟨bb, rfl, hiff, h1⟩
  have HIFF : Hid (bb = true ↔ Knows (tms ks) a l) := hiff
  have hbx1 : Box4 w1 w.heap.size (.int .i64 a.kind) (.int .i64 a.n) (.string a.s) (.slice TA (flen l) cap) := Box4.below ⟨x0, x1, x2, x3, x4⟩ h1
  have hbw1 : Below w.heap.size w w1 := below_tr HB0.out h1
  have hs1 := hbw1.size
  clear hiff h1 k1 x0 x1 x2 x3 x4 HB0
  obtain ⟨x0, x1, x2, x3, x4⟩ := hbx1
  cases bb with
  | false =>
    have HE : Hid (WayEnd w (tms ks) a l (.returned (.tuple #[.slice none 0 0, .bool false])) w1) := ⟨hbw1, .inl ⟨fun h => absurd (HIFF.out.2 h) (by decide), rfl⟩⟩
    go_wp2_with fail
    refine bodyPost_ret (v := .tuple #[.slice none 0 0, .bool false]) (by simp [results, Tryz.results7]) rfl ?_
    exact HE.out
  | true =>
    have k2 := planFor_any a l _ B w1 (HV.out.below (hbw1.mono hB)) (by omega) ma
    go_wp2_with fail
    refine k2.mono ?_
    rintro e w2 ⟨wS, M, VW, rfl, hbS, hM, hMm, hMr, hMl, hMp, hP⟩
    have HST : Hid (Sta wS VW M) := ⟨hM, hMm, hMr, hMl⟩
    have HMP : Hid (∀ u ∈ partT (a, l), ∃ i, i < M.length ∧ nm (M.getD i kd0).t = nm u) := hMp
    have hsS := hbS.size
    have HBS : Hid (Below w.heap.size w wS) := below_tr hbw1 hbS
    have HBX : Hid (∀ W, Below wS.heap.size wS W → Box4 W w.heap.size (.int .i64 a.kind) (.int .i64 a.n) (.string a.s) (.slice TA (flen l) cap)) := fun W hW => by
      have h1 : Box4 wS w.heap.size (.int .i64 a.kind) (.int .i64 a.n) (.string a.s) (.slice TA (flen l) cap) := Box4.below ⟨x0, x1, x2, x3, x4⟩ hbS
      exact h1.below hW
    have HP2 : Hid (PSt wS w2 VW M (tms ks) (fun _ => none) (fun _ => False) (.slice none 0 0)) := hP _ _
    clear hM hMm hMr hMl hMp hP hbS x0 x1 x2 x3 x4 k2
    go_wp2_with fail
    go_loopw [17] (fun iv wr => WRel wS w VW M (tms ks) iv wr) (fun iv _ => ks.length - (intOf iv).toNat)
    case atStart => exact ⟨0, _, rfl, by omega, HP2.out, fun i t h => by omega⟩
    case round =>
      obtain ⟨n, F, rfl, hn1, hp, hcv⟩ := hrel
      rw [tms_len] at hn1
      have HP : Hid (PSt wS wr VW M (tms ks) F (fun _ => False) (.slice none 0 0)) := hp
      have HCV : Hid (∀ i t, i < n → (tms ks)[i]? = some t → CovT (HitAll M F) t) := hcv
      have hsr := hp.below.size
      have hpz := hp.size
      clear hp hcv HP2
      by_cases hlt : n < ks.length
      · have hlt' : (n : Int) < (ks.length : Int) := by omega
        have hi0 : (0 : Int) ≤ (n : Int) := by omega
        obtain ⟨g, rfl, hrw⟩ : ∃ g, LA = some ⟨g, 0, none⟩ ∧ RowT w g ks := by
          rcases HROW.out with h | h
          · omega
          · exact h
        have hrS := hrw.below HBS.out
        have hrr : RowT wr g ks := by
          refine ⟨by have := hrS.1; omega, fun t ht => by rw [HP.out.below.cell (by simpa using hrS.1)]; exact hrS.2.1 t ht, fun k hk => ⟨(hrS.2.2 k hk).1.keep (fun q hq => by omega) (fun q z hq => HP.out.below.cell (by simpa using hq)), (hrS.2.2 k hk).2⟩⟩
        obtain ⟨e0, e1, e2, e3⟩ := hrr.at n hlt
        have hokS := (hrS.ok n hlt).1
        have hokr := (hrr.ok n hlt).1
        have hmk := HMK.out (ks.getD n kd0) (by simp [List.getD, List.getElem?_eq_getElem hlt])
        have hget := tms_get hlt
        have HOKS : Hid ((ks.getD n kd0).Ok wS (fun b => b < wS.heap.size) ∧ (ks.getD n kd0).Ok wr (fun b => b < wr.heap.size) ∧ may (ks.getD n kd0).a (ks.getD n kd0).l = true ∧ (tms ks)[n]? = some (ks.getD n kd0).t) := ⟨hokS, hokr, hmk, hget⟩
        have hg := hrr.1
        clear hrw hrS hrr hokS hokr hmk hget
        generalize ks.getD n kd0 = x at *
        have hba : Below wr.heap.size wr (wr.alloc (.cells #[.int .i64 x.a.kind, .int .i64 x.a.n, .string x.a.s, .slice x.A (flen x.l) x.cap] 27)) := Below.alloc (Below.refl _ _) (Nat.le_refl _) _
        have hbx := Box4.new wr (.int .i64 x.a.kind) (.int .i64 x.a.n) (.string x.a.s) (.slice x.A (flen x.l) x.cap) 27
        have k3 := may_any x.a x.l x.val (wr.alloc (.cells #[.int .i64 x.a.kind, .int .i64 x.a.n, .string x.a.s, .slice x.A (flen x.l) x.cap] 27)) (Kd.rep (HOKS.out.2.1.below hba))
        rw [HOKS.out.2.2.1] at k3
        have HBA : Hid (Below wr.heap.size wr _) := hba
        clear hba
        go_wp2_with fail
        refine k3.mono ?_
        rintro e w3 ⟨rfl, h3⟩
        have hbx3 := hbx.below h3
        obtain ⟨y0, y1, y2, y3, y4⟩ := hbx3
        have hb3 : Below wr.heap.size wr w3 := below_tr HBA.out h3
        have HP3 : Hid (PSt wS w3 VW M (tms ks) F (fun _ => False) (.slice none 0 0)) := HP.out.belowW hb3
        have k4 := look_any x.a x.l wS w3 VW M (tms ks) F (fun _ => False) x.val wS.heap.size n [] (.slice none 0 0) false x.t HST.out HP3.out (Kd.rep HOKS.out.1) (Nat.le_refl _) HOKS.out.2.2.1 HOKS.out.2.2.2 HOKS.out.2.2.1 rfl (fun k hk => by cases hk) (DpT.of HOKS.out.2.2.1) (World.ownsRow_nil _ _ _ _) (fun q h => by cases h) (fun q h => h.elim)
        clear k3 h3 hb3 hbx e0 e1 e2 e3
        go_wp2_with fail
        refine k4.mono ?_
        rintro e w4 ⟨rfl, F2, hp4, hle, hcv4, hgr, _⟩
        have HP4 : Hid (PSt wS w4 VW M (tms ks) F2 (fun _ => False) (.slice none 0 0) ∧ Le F F2 ∧ CovT (HitAll M F2) (x.a, x.l)) := ⟨hp4, hle, hcv4⟩
        clear hp4 hle hcv4 hgr k4 y0 y1 y2 y3 y4
        go_wp2_with fail
        go_roundw
        case rel =>
          refine ⟨n + 1, F2, by go_num, by rw [tms_len]; omega, HP4.out.1, fun i t hi ht => ?_⟩
          rcases Nat.lt_or_ge i n with h5 | h5
          · exact CovT.mono (HitAll.mono HP4.out.2.1) (HCV.out i t h5 ht)
          · obtain rfl : i = n := by omega
            rw [HOKS.out.2.2.2] at ht
            injection ht with ht
            rw [← ht]; exact HP4.out.2.2
        case measure => simp [intOf]; omega
      · obtain rfl : n = ks.length := by omega
        have hlt' : ¬ (ks.length : Int) < (ks.length : Int) := by omega
        have hall : ∀ t ∈ tms ks, CovT (HitAll M F) t := fun t ht => by
          obtain ⟨i, hi, e⟩ := List.getElem_of_mem ht
          exact HCV.out i t (by rw [tms_len] at hi; exact hi) (by rw [List.getElem?_eq_getElem hi, e])
        have hcan : CanT (Hit M F) a l := canT_part (fun u hu hX => by
          have hc := cov_fol hall hX
          obtain ⟨i, hi, hie⟩ := HMP.out u hu
          have h1 := hc.1
          rw [nm_nm] at h1
          exact ⟨i, hi, hie, h1 i hi hie⟩) (HIFF.out.1 (by trivial))
        have hpN : PSt wS wr VW M (tms ks) F (fun q => wr.heap.size ≤ q) (.slice none 0 0) := HP.out.keep HP.out.below (Nat.le_refl _) rfl rfl (fun q h1 h2 _ => ⟨rfl, by omega⟩)
        have k5 := prove_any a l wS wr VW M (tms ks) F wr.heap.size (.slice none 0 0) _ B [] [] HST.out hpN (by omega) (Nat.le_refl _) (World.ownsRow_nil _ _ _ _) (HV.out.below (HBS.out.mono hB)) (by have := HBS.out.size; omega) ma hcan rfl (by have := may_nodes ma; simp; omega) (fun m hm => by cases hm)
        obtain ⟨x0, x1, x2, x3, x4⟩ := HBX.out wr HP.out.below
        clear hall hcan hpN
        go_wp2_with fail
        refine k5.mono ?_
        rintro e w5 ⟨ms, xs, u, m, rfl, hm, ⟨mv5, hp5, ho5, hg5⟩, hrun, hlast, hnm, hlt5, hle5, hso⟩
        have hp52 := hp5.p2
        have HE : Hid (WayEnd w (tms ks) a l (.returned (.tuple #[mv5, .bool true])) w5) := by
          refine ⟨HBS.out.trans (hp5.below.mono HBS.out.size), .inr ⟨HIFF.out.1 (by trivial), ?_⟩⟩
          rcases ho5.2 with ⟨_, h0⟩ | ⟨g, c, cur, hq, _⟩
          · simp at hlt5; omega
          · rw [hq] at ho5 ⊢
            exact ⟨ms, some ⟨g, 0, none⟩, c, [] ++ xs, u, rfl, mvs_own ho5 rfl, by have := may_nodes ma; simp at hle5; omega, hrun, hlast, hnm, hso⟩
        clear hp5 ho5 hg5 hrun hlast hnm hso k5
        go_wp2_with fail
        refine bodyPost_ret (v := .tuple #[mv5, .bool true]) (by simp [results, Tryz.results7]) rfl ?_
        exact HE.out

end Go.Proofs.YtanpplgmdemlaaaGreatDoor
