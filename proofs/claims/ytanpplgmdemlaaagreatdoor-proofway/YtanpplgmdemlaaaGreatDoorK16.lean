import Derived.Test.YtanpplgmdemlaaaGreatDoorK14
import Derived.Test.YtanpplgmdemlaaaGreatDoorA2
import Derived.Test.YtanpplgmdemlaaaGreatDoorK1
namespace Go.Proofs.YtanpplgmdemlaaaGreatDoor
open Go.RowKit
set_option linter.unusedVariables false
set_option linter.unusedSimpArgs false

def lenV : Value → Nat
  | .slice _ n _ => n
  | _ => 0

/-- A list of terms in a block of one's own, that is not g. -/
def SlO (w : World) (B g : Nat) (v : Value) (ks : List Kd) : Prop :=
  (ks = [] ∧ v = .slice none 0 0) ∨ ∃ q c, v = .slice (some ⟨q, 0, none⟩) ks.length c ∧ 0 < ks.length ∧ ks.length ≤ c ∧ c ≤ 9223372036854775807 ∧ B ≤ q ∧ q ≠ g ∧ q < w.heap.size ∧ ∀ t, t < 4 * ks.length → w.cell? ⟨q, t, none⟩ = (rowOf ks)[t]?

theorem SlO.keep {w w' : World} {B g g' : Nat} {v : Value} {ks : List Kd} (h : SlO w B g v ks) (hb : ∀ q, q < w.heap.size → q ≠ g → w'.heap[q]? = w.heap[q]?) (hs : w.heap.size ≤ w'.heap.size) (hg : g' = g ∨ w.heap.size ≤ g') : SlO w' B g' v ks := by
  rcases h with h | ⟨q, c, h1, h2, h3, h4, h5, h6, h7, h8⟩
  · exact .inl h
  · exact .inr ⟨q, c, h1, h2, h3, h4, h5, by omega, by omega, fun t ht => by rw [World.cell?_of_block (w := w) (hb q h7 h6)]; exact h8 t ht⟩
theorem SlO.below {w w' : World} {B g : Nat} {v : Value} {ks : List Kd} (h : SlO w B g v ks) (hb : Below w.heap.size w w') : SlO w' B g v ks := h.keep (fun q hq _ => hb.block q hq) hb.size (.inl rfl)
theorem SlO.sln {w : World} {B g : Nat} {v : Value} {ks : List Kd} (h : SlO w B g v ks) (hk : ∀ k ∈ ks, k.Ok w (fun b => b < w.heap.size) ∧ k.Ar) : SlN w v ks := by
  rcases h with h | ⟨q, c, h1, h2, h3, h4, h5, h6, h7, h8⟩
  · exact .inl h
  · exact .inr ⟨q, c, h1, h2, h3, h4, h7, h8, hk⟩
theorem SlO.len {w : World} {B g : Nat} {v : Value} {ks : List Kd} (h : SlO w B g v ks) : ∃ A c, v = .slice A ks.length c ∧ (∀ q, v.ownBlock = some q → B ≤ q ∧ q ≠ g) := by
  rcases h with ⟨rfl, rfl⟩ | ⟨q, c, h1, h2, h3, h4, h5, h6, h7, h8⟩
  · exact ⟨none, 0, rfl, fun q hq => by simp [Value.ownBlock] at hq⟩
  · exact ⟨_, c, h1, fun q' hq => by rw [h1] at hq; simp [Value.ownBlock] at hq; omega⟩

/-- Add, and where the list lies then. -/
theorem add_blk {w : World} {v : Value} {L : List Kd} {t : Kd} (hv : SlN w v L) (hl : L.length ≤ 1000) (ht : t.Ok w (fun b => b < w.heap.size) ∧ t.Ar) :
    Calls Tryz.prog 49 #[v, t.val] w fun e w' => ∃ (L' : List Kd) (q c : Nat), e = .returned (.slice (some ⟨q, 0, none⟩) L'.length c) ∧ AddOf L t L' ∧ 0 < L'.length ∧ L'.length ≤ c ∧ c ≤ 9223372036854775807 ∧ RowT w' q L' ∧ (v.ownBlock = some q ∨ w.heap.size ≤ q) ∧ Below w.heap.size w w' := by
  rcases hv with ⟨rfl, rfl⟩ | ⟨g, c, rfl, h0, h2, h3, h4⟩
  · refine (add_nil t w.heap.size w ht).mono ?_
    rintro e w' ⟨ys, g, c, a1, rfl, a2, a3, a4, a5, a6⟩
    exact ⟨ys, g, c, rfl, a1, Nat.pos_of_ne_zero a1.pos, a2, a3, a6, .inr (by omega), a4⟩
  · refine (add_row L t g c w h0 hl h2 h3 h4 ht).mono ?_
    rintro e w' ⟨ys, g', c', a1, rfl, a2, a3, a4, a5, a6⟩
    refine ⟨ys, g', c', rfl, a1, Nat.pos_of_ne_zero a1.pos, a2, a3, a6, ?_, a4⟩
    rcases a5 with rfl | a5
    · exact .inl rfl
    · exact .inr a5

theorem nodesK_len : ∀ ks : List Kd, ks.length ≤ nodesK ks
  | [] => Nat.le_refl _
  | k :: r => by have := nodesK_len r; simp [nodesK]; omega

def QRel (w : World) (ks : List Kd) (ov tv : Value) (wr : World) : Prop :=
  ∃ (out todo : List Kd) (g off cap : Nat), tv = .slice (some ⟨g, off, none⟩) todo.length cap ∧ OffR wr w.heap.size 4 g off todo.length cap (rowOf todo) ∧ SlO wr w.heap.size g ov out ∧
    (∀ k ∈ todo, k.Ok w (fun b => b < w.heap.size) ∧ may k.a k.l = true) ∧ (∀ k ∈ out, k.Ok w (fun b => b < w.heap.size) ∧ may k.a k.l = true) ∧ Below w.heap.size w wr ∧ QSpec (tms ks) (tms out) (tms todo) ∧ Rises out ∧ out.length + nodesK todo ≤ nodesK ks

def ROpenEnd (w : World) (ks : List Kd) (e : Ending) (w' : World) : Prop :=
  ∃ (L : List Kd) (u : Value), e = .returned u ∧ SlT w' u L ∧ (∀ k ∈ L, may k.a k.l = true) ∧ Rises L ∧ Clos (tms ks) (tms L) ∧ L.length ≤ nodesK ks ∧ Below w.heap.size w w'

theorem addOf_len {L L' : List Kd} {t : Kd} (h : AddOf L t L') : (L'.length = L.length ∧ L' = L ∧ InL (tms L) (nm (t.a, t.l))) ∨ (L'.length = L.length + 1 ∧ (∀ x ∈ tms L', x = (t.a, t.l) ∨ x ∈ tms L) ∧ (∀ x ∈ tms L, x ∈ tms L') ∧ InL (tms L') (nm (t.a, t.l))) := by
  obtain ⟨i, hi, hlt, ⟨h1, h2, rfl⟩ | ⟨h1, rfl⟩⟩ := h
  · exact .inl ⟨rfl, rfl, _, List.mem_map_of_mem (getD_mem h1), nm_iff.2 h2⟩
  · refine .inr ⟨by simp; omega, fun x hx => ?_, fun x hx => ?_, (t.a, t.l), by simp [tms], rfl⟩
    · rw [tms, List.mem_map] at hx
      obtain ⟨y, hy, rfl⟩ := hx
      rcases List.mem_append.1 hy with hy | hy
      · exact .inr (List.mem_map_of_mem (List.mem_of_mem_take hy))
      · rcases List.mem_cons.1 hy with rfl | hy
        · exact .inl rfl
        · exact .inr (List.mem_map_of_mem (List.mem_of_mem_drop hy))
    · rw [tms, List.mem_map] at hx
      obtain ⟨y, hy, rfl⟩ := hx
      refine List.mem_map_of_mem ?_
      rw [← List.take_append_drop i L] at hy
      rcases List.mem_append.1 hy with hy | hy
      · exact List.mem_append.2 (.inl hy)
      · exact List.mem_append.2 (.inr (List.mem_cons_of_mem _ hy))

theorem addOf_mem {L L' : List Kd} {t : Kd} (h : AddOf L t L') : ∀ y ∈ L', y = t ∨ y ∈ L := by
  obtain ⟨i, hi, hlt, ⟨h1, h2, rfl⟩ | ⟨h1, rfl⟩⟩ := h
  · exact fun y hy => .inr hy
  · intro y hy
    rcases List.mem_append.1 hy with hy | hy
    · exact .inr (List.mem_of_mem_take hy)
    · rcases List.mem_cons.1 hy with rfl | hy
      · exact .inl rfl
      · exact .inr (List.mem_of_mem_drop hy)

/-- The kids of a pair, as they lie. -/
theorem two_kids {w : World} {S : Nat → Prop} {k : Kd} (hk : k.Ok w S) (h2 : flen k.l = 2) : ∃ k1 k2 : Kd, kidL k.l = [(k1.a, k1.l), (k2.a, k2.l)] ∧ k1.Ok w S ∧ k2.Ok w S ∧ k.A = some ⟨k.b, k.o, none⟩ ∧ S k.b ∧ nodesF k.l = (1 + nodesF k1.l) + (1 + nodesF k2.l) ∧
    (w.cell? ⟨k.b, k.o, none⟩ = some (.int .i64 k1.a.kind) ∧ w.cell? ⟨k.b, k.o + 1, none⟩ = some (.int .i64 k1.a.n) ∧ w.cell? ⟨k.b, k.o + 2, none⟩ = some (.string k1.a.s) ∧ w.cell? ⟨k.b, k.o + 3, none⟩ = some (.slice k1.A (flen k1.l) k1.cap)) ∧
    (w.cell? ⟨k.b, k.o + 4, none⟩ = some (.int .i64 k2.a.kind) ∧ w.cell? ⟨k.b, k.o + 4 + 1, none⟩ = some (.int .i64 k2.a.n) ∧ w.cell? ⟨k.b, k.o + 4 + 2, none⟩ = some (.string k2.a.s) ∧ w.cell? ⟨k.b, k.o + 4 + 3, none⟩ = some (.slice k2.A (flen k2.l) k2.cap)) := by
  obtain ⟨_, _, hA, hr⟩ := hk
  have hS : S k.b := by
    cases hl : k.l with
    | nil => rw [hl] at h2; simp [flen] at h2
    | node x y a l r => rw [hl] at hr; exact hr.1
  obtain ⟨js, e, hok, hc⟩ := kds_of_rep k.l k.o hr
  have hj : js.length = 2 := by rw [← flen_foOf, ← e]; exact h2
  match js, hj with
  | [k1, k2], _ =>
    refine ⟨k1, k2, by rw [e]; rfl, hok k1 (by simp), hok k2 (by simp), by rcases hA with h | h; omega; exact h, hS, by rw [e]; simp only [foOf, nodesF]; omega, ⟨hc 0 (by simp), hc 1 (by simp), hc 2 (by simp), hc 3 (by simp)⟩, hc 4 (by simp), hc 5 (by simp), hc 6 (by simp), hc 7 (by simp)⟩

set_option maxRecDepth 100000 in
set_option maxHeartbeats 4000000 in
theorem refOpen_any (ks : List Kd) (v : Value) (w : World) (h : SlT w v ks) (hk : ∀ k ∈ ks, may k.a k.l = true) (hN : nodesK ks ≤ 1000) :
    Calls Tryz.prog 24 #[v] w fun e w' => ROpenEnd w ks e w' := by
  have hkl := nodesK_len ks
  have HOK : Hid (∀ k ∈ ks, k.Ok w (fun b => b < w.heap.size) ∧ may k.a k.l = true) := fun k hk' => ⟨(h.oks k hk').1, hk k hk'⟩
  obtain ⟨A, c, rfl, hA⟩ := h.len
  have HSRC : Hid (∀ W, Below w.heap.size w W → SrcAt W 4 A ks.length (rowOf ks)) := fun W hW => (h.below hW).src rfl
  clear h hk hA
  obtain ⟨i5, hi, hz0, hz1, hz2⟩ := info_get Tryz.infoTerm
  go_enter Tryz.func24, Tryz.ntmps24
  go_wp2_with (at_builtin; refine wpList_append_any _ rfl _ _ 24 rfl w.heap.size 27 i5 (.agg #[.int .i64 0, .int .i64 0, .string ⟨#[]⟩, .slice none 0 0]) 4 56 Tryz.underlying24 hi hz0 hz1 hz2 rfl (by decide) (.slice (some ⟨w.heap.size, 0, none⟩) 0 0) 0 [] rfl ?own A ks.length c (rowOf ks) rfl ?src ?c3 ?c4 ?c5 ?_)
  case own => exact ⟨rfl, .inr ⟨w.heap.size, 0, #[], rfl, Nat.le_refl _, heap_alloc_new w _, Nat.le_refl _, Nat.zero_le _, rfl, rfl⟩⟩
  case src => exact HSRC.out _ (Below.alloc (Below.refl _ _) (Nat.le_refl _) _)
  case c3 => unfold maxLen; omega
  case c4 => omega
  case c5 => simp
  intro v1 w1 hown1 hgrow1 hat1
  obtain ⟨g0, cap0, rfl⟩ : ∃ g cap, v1 = .slice (some ⟨g, 0, none⟩) ks.length cap := by
    rcases hown1.2 with ⟨h1, _⟩ | ⟨g, cap, cur, h1, _⟩
    · rw [h1] at hat1; simp [Value.ownBlock] at hat1
    · exact ⟨g, cap, h1⟩
  have hb1 : Below w.heap.size w w1 := grown_belowT (Below.alloc (Below.refl _ _) (Nat.le_refl _) _) hgrow1 (fun q hq => by simp [Value.ownBlock] at hq; omega)
  have HO1 : Hid (OffR w1 w.heap.size 4 g0 0 ks.length cap0 (rowOf ks)) := OffR.of hown1
  clear hown1 hgrow1 hat1
  go_wp2_with fail
  go_loopw [3, 4] (fun ov tv wr => QRel w ks ov tv wr) (fun ov tv _ => 2 * (nodesK ks - lenV ov) + lenV tv)
  case atStart => exact ⟨[], ks, g0, 0, cap0, rfl, HO1.out, .inl ⟨rfl, rfl⟩, HOK.out, (by intro k hk; cases hk), hb1, QSpec.init _, List.Pairwise.nil, by simp⟩
  case round =>
    obtain ⟨out, todo, g, off, cap, rfl, hoff, hslo, htd, hou, hbl, hq, hri, hct⟩ := hrel
    have HOFF : Hid (OffR wr w.heap.size 4 g off todo.length cap (rowOf todo)) := hoff
    have HSLO : Hid (SlO wr w.heap.size g u3 out) := hslo
    have HTD : Hid (∀ k ∈ todo, k.Ok w (fun b => b < w.heap.size) ∧ may k.a k.l = true) := htd
    have HOU : Hid (∀ k ∈ out, k.Ok w (fun b => b < w.heap.size) ∧ may k.a k.l = true) := hou
    have HQ : Hid (QSpec (tms ks) (tms out) (tms todo)) := hq
    have HRI : Hid (Rises out) := hri
    have HCT : Hid (out.length + nodesK todo ≤ nodesK ks) := hct
    clear hoff hslo htd hou hq hri hct HO1 hb1
    cases todo with
    | nil =>
      go_wp2_with fail
      go_ret
      refine ⟨out, u3, rfl, SlN.sl (HSLO.out.sln (fun k hk => ⟨((HOU.out k hk).1.below hbl), may_ar _ _ (HOU.out k hk).2⟩)), fun k hk => (HOU.out k hk).2, HRI.out, HQ.out.clos, by have := HCT.out; omega, hbl⟩
    | cons k r =>
      have hle := HOFF.out.le
      have hcapm := HOFF.out.capm
      simp only [List.length_cons] at hle
      have c0 : wr.cell? ⟨g, off, none⟩ = some (.int .i64 k.a.kind) := HOFF.out.cells 0 _ rfl
      have c1 : wr.cell? ⟨g, off + 1, none⟩ = some (.int .i64 k.a.n) := HOFF.out.cells 1 _ rfl
      have c2 : wr.cell? ⟨g, off + 2, none⟩ = some (.string k.a.s) := HOFF.out.cells 2 _ rfl
      have c3 : wr.cell? ⟨g, off + 3, none⟩ = some (.slice k.A (flen k.l) k.cap) := HOFF.out.cells 3 _ rfl
      have hgw := HOFF.out.lt
      obtain ⟨off', hof', HOF2⟩ : ∃ off', (if cap = 1 then some (⟨g, off, none⟩ : Addr) else some ⟨g, off + 4, none⟩) = some ⟨g, off', none⟩ ∧ Hid (OffR wr w.heap.size 4 g off' r.length (cap - 1) (rowOf r)) := by
        have hd : (rowOf (k :: r)).drop 4 = rowOf r := rfl
        by_cases h1 : cap = 1
        · refine ⟨off, by rw [if_pos h1], ?_⟩
          have h2 := HOFF.out
          have h3 : r.length = 0 := by omega
          subst h1
          simp only [List.length_cons, h3, Nat.zero_add] at h2
          have := h2.over
          rw [hd] at this
          show OffR _ _ _ _ _ _ _ _
          rw [h3]; exact this
        · refine ⟨off + 4, by rw [if_neg h1], ?_⟩
          have := HOFF.out.tail h1
          rw [hd] at this
          exact this
      obtain ⟨OA, oc, rfl, hob⟩ := HSLO.out.len
      have hcap1 : 1 ≤ cap := by omega
      simp only [List.length_cons] at *
      have hbA : Below wr.heap.size wr (wr.alloc (.cells #[.int .i64 k.a.kind, .int .i64 k.a.n, .string k.a.s, .slice k.A (flen k.l) k.cap] 27)) := Below.alloc (Below.refl _ _) (Nat.le_refl _) _
      have hsr := hbl.size
      have hbA2 : Below w.heap.size w (wr.alloc (.cells #[.int .i64 k.a.kind, .int .i64 k.a.n, .string k.a.s, .slice k.A (flen k.l) k.cap] 27)) := hbl.trans (hbA.mono hsr)
      have hk1 := HTD.out k (by simp)
      have HK1 : Hid (k.Ok w (fun b => b < w.heap.size) ∧ may k.a k.l = true) := hk1
      have hc1 := HCT.out
      simp only [nodesK] at hc1
      clear hk1
      go_wp2_with fail
      refine (add_blk ((HSLO.out.below hbA).sln (fun j hj => ⟨(HOU.out j hj).1.below hbA2, may_ar _ _ (HOU.out j hj).2⟩)) (by omega) ⟨HK1.out.1.below hbA2, may_ar _ _ HK1.out.2⟩).mono ?_
      rintro e w2 ⟨L', q, c', rfl, ha, hpos, hlc, hcm, hrow, hqb, hb2⟩
      have hbr : Below wr.heap.size wr w2 := hbA.trans (hb2.mono (by simp))
      have hbw2 : Below w.heap.size w w2 := hbl.trans (hbr.mono hsr)
      have HOF3 : Hid (OffR w2 w.heap.size 4 g off' r.length (cap - 1) (rowOf r)) := HOF2.out.below hbr
      have HSO : Hid (SlO w2 w.heap.size g (.slice (some ⟨q, 0, none⟩) L'.length c') L') := by
        refine .inr ⟨q, c', rfl, hpos, hlc, hcm, ?_, ?_, hrow.1, hrow.2.1⟩
        · rcases hqb with h | h
          · exact (hob q h).1
          · simp at h; omega
        · rcases hqb with h | h
          · exact (hob q h).2
          · simp at h; omega
      obtain ⟨x0, x1, x2, x3, x4⟩ : Box4 w2 wr.heap.size (.int .i64 k.a.kind) (.int .i64 k.a.n) (.string k.a.s) (.slice k.A (flen k.l) k.cap) := (Box4.new wr _ _ _ _ _).below hb2
      have HAD : Hid (AddOf out k L') := ha
      have HL2 : Hid (∀ j ∈ L', j.Ok w (fun b => b < w.heap.size) ∧ may j.a j.l = true) := fun j hj => by
        rcases addOf_mem ha j hj with rfl | h
        · exact HK1.out
        · exact HOU.out j h
      have HR2 : Hid (Rises L') := (addOf_sort HRI.out ha).1
      have HTR : Hid (∀ j ∈ r, j.Ok w (fun b => b < w.heap.size) ∧ may j.a j.l = true) := fun j hj => HTD.out j (by simp [hj])
      have hs2 := hbr.size
      clear ha hrow hqb c0 c1 c2 c3 HOFF HOF2 HSLO hob hof'
      rcases addOf_len HAD.out with ⟨hlen, heq, hin⟩ | ⟨hlen, hm1, hm2, hin⟩
      · have hle' : ((L'.length : Int) == (out.length : Int)) = true := by simp [hlen]
        have HEQ : Hid (L' = out) := heq
        have HIN : Hid (InL (tms out) (nm (k.a, k.l))) := hin
        have HLEN : Hid (L'.length = out.length) := hlen
        clear heq hin hlen
        go_wp2_with fail
        go_roundw
        case rel =>
          have h1 := HSO.out
          have h2 := HL2.out
          have h3 := HR2.out
          refine ⟨L', r, g, off', cap - 1, rfl, HOF3.out, h1, HTR.out, h2, hbw2, ?_, h3, by have := HLEN.out; omega⟩
          rw [HEQ.out]
          exact HQ.out.old HIN.out
        case measure => have := HLEN.out; simp only [lenV]; omega
      · have hle' : ((L'.length : Int) == (out.length : Int)) = false := by simp; omega
        have HQN : Hid (QSpec (tms ks) (tms L') (tms r ++ outs (k.a, k.l))) := HQ.out.new hm1 hm2 hin
        have HLEN : Hid (L'.length = out.length + 1) := hlen
        have hrl : r.length ≤ 1000 := by have := nodesK_len r; omega
        clear hm1 hm2 hin hlen
        by_cases h7 : k.a.kind = 7
        · have k7 : (k.a.kind == 7) = true := by simp [h7]
          have hfl : flen k.l = 2 := by have := (may_ar _ _ HK1.out.2).1; rw [h7] at this; simp [kidsOf] at this; omega
          obtain ⟨k1, k2, hkd, hk1, hk2, hkA, hkb, hnd, hcs1, hcs2⟩ := two_kids HK1.out.1 hfl
          have hou : outs (k.a, k.l) = tms [k1, k2] := by unfold outs skipOf; rw [if_pos h7, List.drop_zero, hkd]; rfl
          have hmk := amay_mem (may_amay HK1.out.2)
          rw [hkd] at hmk
          have HNEW : Hid (∀ j ∈ r ++ [k1, k2], j.Ok w (fun b => b < w.heap.size) ∧ may j.a j.l = true) := fun j hj => by
            rcases List.mem_append.1 hj with hj | hj
            · exact HTR.out j hj
            · rcases List.mem_cons.1 hj with rfl | hj
              · exact ⟨hk1, hmk (j.a, j.l) (by simp)⟩
              · simp only [List.mem_singleton] at hj
                subst hj
                exact ⟨hk2, hmk (j.a, j.l) (by simp)⟩
          have HQN2 : Hid (QSpec (tms ks) (tms L') (tms (r ++ [k1, k2]))) := by
            have := HQN.out
            rw [hou] at this
            show QSpec _ _ _
            rw [show tms (r ++ [k1, k2]) = tms r ++ tms [k1, k2] from by simp [tms]]
            exact this
          have hnk : nodesK (r ++ [k1, k2]) = nodesK r + nodesF k.l := by rw [nodesK_append, hnd]; simp [nodesK]
          rw [hkA, hfl] at x4
          have hgB := HOF3.out.own
          have hgl := HOF3.out.lt
          have HKS : Hid (∀ w' : World, (∀ q, q < w2.heap.size → q ≠ g → w'.heap[q]? = w2.heap[q]?) → w'.cell? ⟨wr.heap.size, 3, none⟩ = some (.slice (some ⟨k.b, k.o, none⟩) 2 k.cap) ∧
              (w'.cell? ⟨k.b, k.o, none⟩ = some (.int .i64 k1.a.kind) ∧ w'.cell? ⟨k.b, k.o + 1, none⟩ = some (.int .i64 k1.a.n) ∧ w'.cell? ⟨k.b, k.o + 2, none⟩ = some (.string k1.a.s) ∧ w'.cell? ⟨k.b, k.o + 3, none⟩ = some (.slice k1.A (flen k1.l) k1.cap)) ∧
              (w'.cell? ⟨k.b, k.o + 4, none⟩ = some (.int .i64 k2.a.kind) ∧ w'.cell? ⟨k.b, k.o + 4 + 1, none⟩ = some (.int .i64 k2.a.n) ∧ w'.cell? ⟨k.b, k.o + 4 + 2, none⟩ = some (.string k2.a.s) ∧ w'.cell? ⟨k.b, k.o + 4 + 3, none⟩ = some (.slice k2.A (flen k2.l) k2.cap))) := by
            intro w' hb'
            have hbk : ∀ j, w'.cell? ⟨k.b, j, none⟩ = w.cell? ⟨k.b, j, none⟩ := fun j => by
              rw [World.cell?_of_block (w := w2) (a := ⟨k.b, j, none⟩) (hb' k.b (by have := hbw2.size; omega) (by omega))]
              exact hbw2.cell (by simpa using hkb)
            refine ⟨?_, ?_, ?_⟩
            · rw [World.cell?_of_block (w := w2) (a := ⟨wr.heap.size, 3, none⟩) (hb' _ (by simpa using x0) (by simp; omega))]; exact x4
            · rw [hbk, hbk, hbk, hbk]; exact hcs1
            · rw [hbk, hbk, hbk, hbk]; exact hcs2
          have hal : ∀ cs : Array Value, Below w2.heap.size w2 (w2.drew.alloc (.cells cs 27)) := fun cs => Below.alloc (Below.drew (Below.refl _ _)) (Nat.le_refl _) _
          clear hkd hmk hou hcs1 hcs2 h7 hkA hk1 hk2 x2 x3 x4
          go_wp2_with fail
          go_region_held3 (fun w' => w'.cell? ⟨wr.heap.size, 3, none⟩ = some (.slice (some ⟨k.b, k.o, none⟩) 2 k.cap) ∧
              (w'.cell? ⟨k.b, k.o, none⟩ = some (.int .i64 k1.a.kind) ∧ w'.cell? ⟨k.b, k.o + 1, none⟩ = some (.int .i64 k1.a.n) ∧ w'.cell? ⟨k.b, k.o + 2, none⟩ = some (.string k1.a.s) ∧ w'.cell? ⟨k.b, k.o + 3, none⟩ = some (.slice k1.A (flen k1.l) k1.cap)) ∧
              (w'.cell? ⟨k.b, k.o + 4, none⟩ = some (.int .i64 k2.a.kind) ∧ w'.cell? ⟨k.b, k.o + 4 + 1, none⟩ = some (.int .i64 k2.a.n) ∧ w'.cell? ⟨k.b, k.o + 4 + 2, none⟩ = some (.string k2.a.s) ∧ w'.cell? ⟨k.b, k.o + 4 + 3, none⟩ = some (.slice k2.A (flen k2.l) k2.cap)))
            (first | exact HKS.out _ (fun q hq _ => rfl) | exact HKS.out _ (fun q hq _ => (hal _).block q hq) | exact HKS.out _ (fun q hq hne => (hgrow8.block q (by simp; omega) (fun e => hne (by injection e))).trans ((hal _).block q hq)) | assumption)
            (first
              | (refine step_append_off _ (by rfl) _ _ 24 (by rfl) 27 i5 (.agg #[.int .i64 0, .int .i64 0, .string ⟨#[]⟩, .slice none 0 0]) 4 56 Tryz.underlying24 hi hz0 hz1 hz2 rfl (by decide) w.heap.size g off' r.length (cap - 1) (rowOf r) (by rfl) (HOF3.out.below (hal _)) ⟨w2.heap.size, 0, none⟩ 2 2 (k1.cells ++ k2.cells) (by rfl) rfl (World.news_of_block (cs := #[.int .i64 k1.a.kind, .int .i64 k1.a.n, .string k1.a.s, .slice k1.A (flen k1.l) k1.cap, .int .i64 k2.a.kind, .int .i64 k2.a.n, .string k2.a.s, .slice k2.A (flen k2.l) k2.cap]) (t := 27) (fr := (0, 0)) (heap_alloc_new w2.drew _)) (by simp [Kd.cells, Value.oneCell']) (by unfold maxLen; omega) (by omega) (by simp; omega) ?_; intro g8 off8 cap8 w8 hown8 hgrow8 hat8))
          have hg8 : g8 = g ∨ w2.heap.size ≤ g8 := by rcases hat8 with h | h; exact .inl h; (first | omega | (simp at h; omega))
          have hblk : ∀ q, q < w2.heap.size → q ≠ g → w8.heap[q]? = w2.heap[q]? := fun q hq hne => (hgrow8.block q (by simp; omega) (fun e => hne (by injection e))).trans ((hal _).block q hq)
          have hsz8 : w2.heap.size ≤ w8.heap.size := by have := hgrow8.size; simp at this; omega
          have hb8 : Below w.heap.size w w8 := grown_belowT (hbw2.trans ((hal _).mono hbw2.size)) hgrow8 (fun q hq => by injection hq with hq; omega)
          have HOF8 : Hid (OffR w8 w.heap.size 4 g8 off8 (r.length + 2) cap8 (rowOf r ++ (k1.cells ++ k2.cells))) := hown8
          have HSO8 : Hid (SlO w8 w.heap.size g8 (.slice (some ⟨q, 0, none⟩) L'.length c') L') := HSO.out.keep hblk hsz8 hg8
          clear hown8 hgrow8 hat8 hblk
          go_wp2_with fail
          go_roundw
          case rel =>
            refine ⟨L', r ++ [k1, k2], g8, off8, cap8, ?_, ?_, HSO8.out, HNEW.out, HL2.out, hb8, HQN2.out, HR2.out, by have := HLEN.out; omega⟩
            · rw [List.length_append]; rfl
            · have := HOF8.out
              rw [List.length_append, rowOf_append]
              show OffR _ _ _ _ _ (r.length + 2) _ _
              rw [show rowOf [k1, k2] = k1.cells ++ k2.cells from by simp [rowOf]]
              exact this
          case measure => have := HLEN.out; simp only [lenV]; omega
        · have k7 : (k.a.kind == 7) = false := by simp [h7]
          by_cases h6 : k.a.kind = 6
          · have k6 : (k.a.kind == 6) = true := by simp [h6]
            have hfl : flen k.l = 2 := by have := (may_ar _ _ HK1.out.2).1; rw [h6] at this; simp [kidsOf] at this; omega
            obtain ⟨k1, k2, hkd, hk1, hk2, hkA, hkb, hnd, hcs1, hcs2⟩ := two_kids HK1.out.1 hfl
            have hou : outs (k.a, k.l) = tms [k2] := by unfold outs skipOf; rw [if_neg h7, if_pos h6, hkd]; rfl
            have hmk := amay_mem (may_amay HK1.out.2)
            rw [hkd] at hmk
            have HNEW : Hid (∀ j ∈ r ++ [k2], j.Ok w (fun b => b < w.heap.size) ∧ may j.a j.l = true) := fun j hj => by
              rcases List.mem_append.1 hj with hj | hj
              · exact HTR.out j hj
              · simp only [List.mem_singleton] at hj
                subst hj
                exact ⟨hk2, hmk (j.a, j.l) (by simp)⟩
            have HQN2 : Hid (QSpec (tms ks) (tms L') (tms (r ++ [k2]))) := by
              have := HQN.out
              rw [hou] at this
              show QSpec _ _ _
              rw [show tms (r ++ [k2]) = tms r ++ tms [k2] from by simp [tms]]
              exact this
            have hnk : nodesK (r ++ [k2]) ≤ nodesK r + nodesF k.l := by rw [nodesK_append, hnd]; simp only [nodesK]; omega
            rw [hkA, hfl] at x4
            have hgB := HOF3.out.own
            have hgl := HOF3.out.lt
            have hbk : ∀ j, w2.cell? ⟨k.b, j, none⟩ = w.cell? ⟨k.b, j, none⟩ := fun j => hbw2.cell (by simpa using hkb)
            obtain ⟨d0, d1, d2, d3⟩ := hcs2
            rw [← hbk] at d0 d1 d2 d3
            have hal : ∀ cs : Array Value, Below w2.heap.size w2 (w2.alloc (.cells cs 27)) := fun cs => Below.alloc (Below.refl _ _) (Nat.le_refl _) _
            clear hkd hmk hou hcs1 h6 h7 hkA hk1 hk2 hbk
            go_wp2_with (at_builtin; refine wpList_append_off _ rfl _ _ 24 rfl 27 i5 (.agg #[.int .i64 0, .int .i64 0, .string ⟨#[]⟩, .slice none 0 0]) 4 56 Tryz.underlying24 hi hz0 hz1 hz2 rfl (by decide) w.heap.size g off' r.length (cap - 1) (rowOf r) rfl (HOF3.out.below (hal _)) ⟨w2.heap.size, 0, none⟩ 1 1 k2.cells rfl rfl (World.news_of_block (cs := #[.int .i64 k2.a.kind, .int .i64 k2.a.n, .string k2.a.s, .slice k2.A (flen k2.l) k2.cap]) (t := 27) (fr := (0, 0)) (heap_alloc_new w2 _)) (by simp [Kd.cells, Value.oneCell']) (by unfold maxLen; omega) (by omega) (by simp; omega) ?_)
            intro g8 off8 cap8 w8 hown8 hgrow8 hat8
            have hg8 : g8 = g ∨ w2.heap.size ≤ g8 := by rcases hat8 with h | h; exact .inl h; (first | omega | (simp at h; omega))
            have hblk : ∀ q, q < w2.heap.size → q ≠ g → w8.heap[q]? = w2.heap[q]? := fun q hq hne => (hgrow8.block q (by simp; omega) (fun e => hne (by injection e))).trans ((hal _).block q hq)
            have hsz8 : w2.heap.size ≤ w8.heap.size := by have := hgrow8.size; simp at this; omega
            have hb8 : Below w.heap.size w w8 := grown_belowT (hbw2.trans ((hal _).mono hbw2.size)) hgrow8 (fun q hq => by injection hq with hq; omega)
            have HOF8 : Hid (OffR w8 w.heap.size 4 g8 off8 (r.length + 1) cap8 (rowOf r ++ k2.cells)) := hown8
            have HSO8 : Hid (SlO w8 w.heap.size g8 (.slice (some ⟨q, 0, none⟩) L'.length c') L') := HSO.out.keep hblk hsz8 hg8
            clear hown8 hgrow8 hat8 hblk
            go_wp2_with fail
            go_roundw
            case rel =>
              refine ⟨L', r ++ [k2], g8, off8, cap8, ?_, ?_, HSO8.out, HNEW.out, HL2.out, hb8, HQN2.out, HR2.out, by have := HLEN.out; omega⟩
              · rw [List.length_append]; rfl
              · have := HOF8.out
                rw [List.length_append, rowOf_append]
                show OffR _ _ _ _ _ (r.length + 1) _ _
                rw [show rowOf [k2] = k2.cells from by simp [rowOf]]
                exact this
            case measure => have := HLEN.out; simp only [lenV]; omega
          · have k6 : (k.a.kind == 6) = false := by simp [h6]
            have hou : outs (k.a, k.l) = [] := by
              cases ho : outs (k.a, k.l) with
              | nil => rfl
              | cons u t => have := outs_kind (t := (k.a, k.l)) HK1.out.2 (u := u) (by rw [ho]; simp); simp only at this; omega
            have HQN2 : Hid (QSpec (tms ks) (tms L') (tms r)) := by
              have := HQN.out
              rw [hou, List.append_nil] at this
              exact this
            clear hou h6 h7
            go_wp2_with fail
            go_roundw
            case rel => exact ⟨L', r, g, off', cap - 1, rfl, HOF3.out, HSO.out, HTR.out, HL2.out, hbw2, HQN2.out, HR2.out, by have := HLEN.out; omega⟩
            case measure => have := HLEN.out; simp only [lenV]; omega

end Go.Proofs.YtanpplgmdemlaaaGreatDoor
