import Derived.Test.YteohbkfogebldaaT9
import Derived.Test.YteohbkfogebldaaLTextRunes
namespace Go.Proofs.Yteohbkfogebldaa
open Go.RowKit
set_option linter.unusedVariables false
set_option linter.unusedSimpArgs false

theorem bN_left (a b : ByteArray) (j : Nat) (h : j < a.size) : bN (a ++ b) j = bN a j := by
  rw [← bN_at _ _ (by rw [ByteArray.size_append]; omega), ← bN_at _ _ h, ByteArray.getElem_append_left h]
theorem bN_right (a b : ByteArray) (j : Nat) (h : a.size ≤ j) (h2 : j < a.size + b.size) : bN (a ++ b) j = bN b (j - a.size) := by
  rw [← bN_at _ _ (by rw [ByteArray.size_append]; omega), ← bN_at _ _ (by omega), ByteArray.getElem_append_right h]
theorem bN_front (s : ByteArray) (e j : Nat) (h : j < e) (h2 : j < s.size) : bN (s.extract 0 e) j = bN s j := by
  rw [← bN_at _ _ (by simp; omega), ← bN_at _ _ h2]; simp [ByteArray.getElem_extract]
theorem size_front (s : ByteArray) (e : Nat) (h : e ≤ s.size) : (s.extract 0 e).size = e := by simp; omega
theorem moreAt_front (s : ByteArray) (e pos k : Nat) (h : e ≤ s.size) : moreAt (s.extract 0 e) pos k = if pos + k < e then moreAt s pos k else -1 := by
  unfold moreAt
  rw [size_front s e h]
  by_cases h2 : pos + k < e
  · rw [bN_front s e _ h2 (by omega), if_pos h2]
    have : (pos + k < e ∧ 128 ≤ bN s (pos + k) ∧ bN s (pos + k) ≤ 191) ↔ (pos + k < s.size ∧ 128 ≤ bN s (pos + k) ∧ bN s (pos + k) ≤ 191) := by omega
    simp only [this]
  · rw [if_neg (by omega), if_neg h2]

theorem firstOk_some (c a b d : Int) : ∃ r n, FirstOk c a b d r n := by
  unfold FirstOk
  by_cases h1 : c < 128
  · exact ⟨_, _, .inl ⟨h1, rfl, rfl⟩⟩
  · by_cases h2 : 194 ≤ c ∧ c < 224 ∧ 0 ≤ a
    · exact ⟨_, _, .inr (.inl ⟨h2.1, h2.2.1, h2.2.2, rfl, rfl⟩)⟩
    · by_cases h3 : (224 ≤ c ∧ c < 240 ∧ 0 ≤ a ∧ 0 ≤ b ∧ 2048 ≤ (c - 224) * 4096 + a * 64 + b ∧ ((c - 224) * 4096 + a * 64 + b < 55296 ∨ 57343 < (c - 224) * 4096 + a * 64 + b))
      · exact ⟨_, _, .inr (.inr (.inl ⟨h3.1, h3.2.1, h3.2.2.1, h3.2.2.2.1, rfl, h3.2.2.2.2.1, h3.2.2.2.2.2, rfl⟩))⟩
      · by_cases h4 : (240 ≤ c ∧ c < 245 ∧ 0 ≤ a ∧ 0 ≤ b ∧ 0 ≤ d ∧ 65536 ≤ (c - 240) * 262144 + a * 4096 + b * 64 + d ∧ (c - 240) * 262144 + a * 4096 + b * 64 + d ≤ 1114111)
        · exact ⟨_, _, .inr (.inr (.inr (.inl ⟨h4.1, h4.2.1, h4.2.2.1, h4.2.2.2.1, h4.2.2.2.2.1, rfl, h4.2.2.2.2.2.1, h4.2.2.2.2.2.2, rfl⟩)))⟩
        · exact ⟨_, _, .inr (.inr (.inr (.inr ⟨by omega, h2, h3, h4, rfl, rfl⟩)))⟩

theorem firstOk_cut (c a b d r n m : Int) (hn : n ≤ m) (h : FirstOk c a b d r n) : FirstOk c (if 1 < m then a else -1) (if 2 < m then b else -1) (if 3 < m then d else -1) r n := by
  unfold FirstOk at h ⊢
  rcases h with ⟨h1, h2, h3⟩ | ⟨h1, h2, h3, h4, h5⟩ | ⟨h1, h2, h3, h4, h5, h6, h7, h8⟩ | ⟨h1, h2, h3, h4, h5, h6, h7, h8, h9⟩ | ⟨h1, h2, h3, h4, h5, h6⟩
  · exact .inl ⟨h1, h2, h3⟩
  · rw [if_pos (show 1 < m by omega)]
    exact .inr (.inl ⟨h1, h2, h3, h4, h5⟩)
  · rw [if_pos (show 1 < m by omega), if_pos (show 2 < m by omega)]
    exact .inr (.inr (.inl ⟨h1, h2, h3, h4, h5, h6, h7, h8⟩))
  · rw [if_pos (show 1 < m by omega), if_pos (show 2 < m by omega), if_pos (show 3 < m by omega)]
    exact .inr (.inr (.inr (.inl ⟨h1, h2, h3, h4, h5, h6, h7, h8, h9⟩)))
  · refine .inr (.inr (.inr (.inr ⟨h1, ?_, ?_, ?_, h5, h6⟩)))
    · split
      · exact h2
      · omega
    · by_cases k1 : 1 < m
      · by_cases k2 : 2 < m
        · rw [if_pos k1, if_pos k2]; exact h3
        · rw [if_neg k2]; omega
      · rw [if_neg k1]; omega
    · by_cases k1 : 1 < m
      · by_cases k2 : 2 < m
        · by_cases k3 : 3 < m
          · rw [if_pos k1, if_pos k2, if_pos k3]; exact h4
          · rw [if_neg k3]; omega
        · rw [if_neg k2]; omega
      · rw [if_neg k1]; omega

/-- A rune that ends ahead of the cut is the same in the front. -/
theorem decode_front (s : ByteArray) (e pos : Nat) (he : e ≤ s.size) (hp : pos + (Utf8.decode s pos).2 ≤ e) (hw : pos < e) : Utf8.decode (s.extract 0 e) pos = Utf8.decode s pos := by
  obtain ⟨r, n, h⟩ := firstOk_some (bN s pos) (moreAt s pos 1) (moreAt s pos 2) (moreAt s pos 3)
  obtain ⟨h1, h2⟩ := firstOk_decode s pos r n h
  have h3 := firstOk_cut _ _ _ _ _ _ ((e : Int) - pos) (by omega) h
  have c1 : (1 < (e : Int) - pos) = (pos + 1 < e) := by rw [eq_iff_iff]; omega
  have c2 : (2 < (e : Int) - pos) = (pos + 2 < e) := by rw [eq_iff_iff]; omega
  have c3 : (3 < (e : Int) - pos) = (pos + 3 < e) := by rw [eq_iff_iff]; omega
  simp only [c1, c2, c3] at h3
  have h4 := firstOk_decode (s.extract 0 e) pos r n (by
    rw [moreAt_front s e pos 1 he, moreAt_front s e pos 2 he, moreAt_front s e pos 3 he, bN_front s e pos hw (by omega)]; exact h3)
  exact Prod.ext (by omega) (by omega)

theorem clipF_ge (s : ByteArray) : ∀ f pos n, pos ≤ clipF s f pos n
  | 0, _, _ => Nat.le_refl _
  | f + 1, pos, n => by
    rw [clipF]; split
    · have := clipF_ge s f (pos + (Utf8.decode s pos).2) (n - 1); omega
    · exact Nat.le_refl _

theorem runes_front (s : ByteArray) : ∀ f pos a g, s.size ≤ pos + f → pos ≤ s.size → clipF s f pos a ≤ pos + g → runesF (s.extract 0 (clipF s f pos a)) g pos = min a (runesF s f pos) := by
  intro f
  induction f with
  | zero =>
    intro pos a g h hp hg
    rw [runesF_end _ _ _ (by rw [clipF]; simp; try omega)]
    simp [runesF]
  | succ f ih =>
    intro pos a g h hp hg
    rw [clipF] at hg ⊢
    by_cases hc : pos < s.size ∧ 0 < a
    · rw [if_pos hc] at hg ⊢
      have h1 := clipF_ge s f (pos + (Utf8.decode s pos).2) (a - 1)
      have h2 := width_pos s pos hc.1
      have h3 := width_in s pos hc.1
      have h4 := clipF_le s f _ (a - 1) h3
      obtain ⟨g, rfl⟩ : ∃ g', g = g' + 1 := ⟨g - 1, by omega⟩
      rw [runesF, if_pos (by rw [size_front s _ h4]; omega), decode_front s _ pos h4 h1 (by omega), ih _ (a - 1) g (by omega) h3 (by omega), runesF, if_pos hc.1]
      omega
    · rw [if_neg hc] at hg ⊢
      rw [runesF_end _ _ _ (by rw [size_front s _ hp]; omega), runesF]
      by_cases h0 : pos < s.size
      · rw [show a = 0 by omega]; simp
      · rw [if_neg h0]; simp

theorem clip_front (s : ByteArray) : ∀ f pos a b g, s.size ≤ pos + f → pos ≤ s.size → clipF s f pos a ≤ pos + g → clipF (s.extract 0 (clipF s f pos a)) g pos b = clipF s f pos (min a b) := by
  intro f
  induction f with
  | zero =>
    intro pos a b g h hp hg
    rw [clipF_end _ _ _ _ (by rw [clipF]; simp; try omega)]
    simp [clipF]
  | succ f ih =>
    intro pos a b g h hp hg
    rw [clipF] at hg ⊢
    by_cases hc : pos < s.size ∧ 0 < a
    · rw [if_pos hc] at hg ⊢
      have h1 := clipF_ge s f (pos + (Utf8.decode s pos).2) (a - 1)
      have h2 := width_pos s pos hc.1
      have h3 := width_in s pos hc.1
      have h4 := clipF_le s f _ (a - 1) h3
      obtain ⟨g, rfl⟩ : ∃ g', g = g' + 1 := ⟨g - 1, by omega⟩
      rw [clipF, clipF, size_front s _ h4]
      by_cases hb : 0 < b
      · rw [if_pos ⟨by omega, hb⟩, decode_front s _ pos h4 h1 (by omega), ih _ (a - 1) (b - 1) g (by omega) h3 (by omega), if_pos ⟨hc.1, by omega⟩]
        congr 1; omega
      · rw [if_neg (by omega), if_neg (by omega)]
    · rw [if_neg hc] at hg ⊢
      rw [clipF_end _ _ _ _ (by rw [size_front s _ hp]; omega), clipF, if_neg (by omega)]

theorem clip_all (s : ByteArray) : ∀ f pos, s.size ≤ pos + f → pos ≤ s.size → clipF s f pos (runesF s f pos) = s.size := by
  intro f
  induction f with
  | zero => intro pos h hp; rw [clipF]; omega
  | succ f ih =>
    intro pos h hp
    rw [clipF, runesF]
    by_cases hc : pos < s.size
    · have h2 := width_pos s pos hc
      have h3 := width_in s pos hc
      rw [if_pos hc, if_pos ⟨hc, by omega⟩]
      exact ih _ (by omega) h3
    · rw [if_neg hc, if_neg (by omega)]; omega

/-- The front of s that has a runes. -/
def clipS (s : ByteArray) (a : Nat) : ByteArray := s.extract 0 (clipF s s.size 0 a)

theorem clipS_size (s : ByteArray) (a : Nat) : (clipS s a).size = clipF s s.size 0 a := size_front s _ (clipF_le s _ _ _ (Nat.zero_le _))
theorem clipS_le (s : ByteArray) (a : Nat) : (clipS s a).size ≤ s.size := by rw [clipS_size]; exact clipF_le s _ _ _ (Nat.zero_le _)
theorem clipS_back (s : ByteArray) (a : Nat) : s.extract 0 (clipS s a).size = clipS s a := by rw [clipS_size]; rfl
theorem clipS_runes (s : ByteArray) (a : Nat) : runesF (clipS s a) (clipS s a).size 0 = min a (runesF s s.size 0) := by
  rw [clipS_size]
  show runesF (s.extract 0 (clipF s s.size 0 a)) (clipF s s.size 0 a) 0 = _
  exact runes_front s s.size 0 a (clipF s s.size 0 a) (by omega) (by omega) (Nat.le_add_left _ _)
theorem front_front (s : ByteArray) (e k : Nat) (h : k ≤ e) : (s.extract 0 e).extract 0 k = s.extract 0 k := by
  rw [ByteArray.extract_extract]; congr 1; omega
theorem clipF_min (s : ByteArray) (a b : Nat) : clipF s s.size 0 (min a b) ≤ clipF s s.size 0 a := by
  have h := clip_front s s.size 0 a b (clipF s s.size 0 a) (by omega) (by omega) (Nat.le_add_left _ _)
  have hl := clipF_le (s.extract 0 (clipF s s.size 0 a)) (clipF s s.size 0 a) 0 b (Nat.zero_le _)
  rw [h] at hl
  exact Nat.le_trans hl (Nat.le_of_eq (size_front s _ (clipF_le s _ _ _ (Nat.zero_le _))))
theorem clipS_clip (s : ByteArray) (a b : Nat) : clipS (clipS s a) b = clipS s (min a b) := by
  have h := clip_front s s.size 0 a b (clipF s s.size 0 a) (by omega) (by omega) (Nat.le_add_left _ _)
  have h0 : clipS (clipS s a) b = (clipS s a).extract 0 (clipF (clipS s a) (clipF s s.size 0 a) 0 b) := by rw [← clipS_size s a]; rfl
  have h1 : clipF (clipS s a) (clipF s s.size 0 a) 0 b = clipF s s.size 0 (min a b) := h
  rw [h0, h1]
  exact front_front s _ _ (clipF_min s a b)
theorem clipS_zero (s : ByteArray) : clipS s 0 = ⟨#[]⟩ := by
  have : clipF s s.size 0 0 = 0 := by cases s.size <;> simp [clipF]
  unfold clipS; rw [this]; simp; rfl
theorem clipS_all (s : ByteArray) : clipS s (runesF s s.size 0) = s := by
  unfold clipS; rw [clip_all s s.size 0 (by omega) (by omega)]; simp

theorem bytesF_mono (p q : Int → Bool) (hpq : ∀ r, p r = true → q r = true) (s : ByteArray) : ∀ f i, bytesF p s f i = true → bytesF q s f i = true := by
  intro f
  induction f with
  | zero => intro i h; rfl
  | succ f ih =>
    intro i h
    rw [bytesF] at h ⊢
    split at h
    · rename_i hi
      rw [if_pos hi]
      rw [Bool.and_eq_true] at h ⊢
      exact ⟨hpq _ h.1, ih _ h.2⟩
    · rename_i hi
      rw [if_neg hi]

theorem plain_runes (s : ByteArray) : ∀ f pos, s.size ≤ pos + f → pos ≤ s.size → bytesF plainB s f pos = true → runesF s f pos = s.size - pos ∧ eachF knownB s f pos = true := by
  intro f
  induction f with
  | zero => intro pos h hp hb; exact ⟨by rw [runesF]; omega, rfl⟩
  | succ f ih =>
    intro pos h hp hb
    rw [bytesF] at hb
    rw [runesF, eachF]
    by_cases hc : pos < s.size
    · rw [if_pos hc, Bool.and_eq_true] at hb
      have ha : (s[pos]'hc).toNat < 128 := by
        rw [bN_at s pos hc]; have := hb.1; simp [plainB] at this; omega
      rw [if_pos hc, if_pos hc, decode_ascii s pos hc ha]
      obtain ⟨h1, h2⟩ := ih (pos + 1) (by omega) (by omega) hb.2
      refine ⟨by simp only [h1]; omega, ?_⟩
      simp only [h2, Bool.and_true]
      simp [knownB]; omega
    · rw [if_neg hc, if_neg hc]; exact ⟨by omega, rfl⟩

theorem word_all (x : ByteArray) (h : wordB x = true) : tokenB x = true ∧ sawB x = true ∧ eachF knownB x x.size 0 = true ∧ runesF x x.size 0 = x.size := by
  rw [wordB, Bool.and_eq_true, decide_eq_true_eq] at h
  obtain ⟨h1, h2⟩ := plain_runes x x.size 0 (by omega) (by omega) h.2
  refine ⟨?_, ?_, h2, by omega⟩
  · rw [tokenB, Bool.and_eq_true, decide_eq_true_eq]
    exact ⟨h.1.1, bytesF_mono plainB tokB (fun r hr => by simp [tokB, hr]) x _ _ h.2⟩
  · exact bytesF_mono plainB seenB (fun r hr => by simp [plainB] at hr; simp [seenB]; omega) x _ _ h.2

theorem foldS_size (s : ByteArray) : (foldS s).size = s.size := by
  show (foldL s).toArray.size = _
  rw [List.size_toArray, foldL_len]
theorem foldS_twice (s : ByteArray) : foldS (foldS s) = foldS s := by
  unfold foldS
  congr 2
  unfold foldL
  simp only [List.map_map]
  apply List.map_congr_left
  intro b _
  have := b.toNat_lt
  have h1 : (UInt8.ofNat (lowN b.toNat)).toNat = lowN b.toNat := by
    rw [UInt8.toNat_ofNat']; apply Nat.mod_eq_of_lt; unfold lowN; split <;> omega
  simp only [Function.comp, h1]
  congr 1
  unfold lowN; split <;> (try split) <;> omega

/-- A byte as a text. -/
def oneS (c : Nat) : ByteArray := ⟨#[UInt8.ofNat c]⟩
theorem one_facts : ∀ c : Fin 256, wordB (oneS c.1) = plainB (c.1 : Int) ∧ sawB (oneS c.1) = decide (32 ≤ c.1 ∧ c.1 ≤ 126) ∧ eachF knownB (oneS c.1) (oneS c.1).size 0 = decide (c.1 < 128) ∧ tokenB (oneS c.1) = tokB (c.1 : Int) := by decide +kernel

/-- So many times the same text. -/
def repS (u : ByteArray) : Nat → ByteArray
  | 0 => ⟨#[]⟩
  | n + 1 => repS u n ++ u

theorem rep_euro : ∀ k : Fin 40, runesF (repS ⟨#[226, 130, 172]⟩ k.1) (repS ⟨#[226, 130, 172]⟩ k.1).size 0 = k.1 ∧ eachF namedB (repS ⟨#[226, 130, 172]⟩ k.1) (repS ⟨#[226, 130, 172]⟩ k.1).size 0 = true := by decide +kernel

theorem bytesF_all (p : Int → Bool) (s : ByteArray) (h : ∀ j, j < s.size → p (bN s j : Int) = true) : ∀ f i, bytesF p s f i = true := by
  intro f
  induction f with
  | zero => intro i; rfl
  | succ f ih =>
    intro i
    rw [bytesF]
    split
    · rename_i hi; rw [h i hi, ih]; rfl
    · rfl

theorem repW_size (u : ByteArray) : ∀ n, (repS u n).size = n * u.size
  | 0 => by rw [repS, Nat.zero_mul]; rfl
  | n + 1 => by rw [repS, ByteArray.size_append, repW_size u n, Nat.succ_mul]
theorem repW_at : ∀ n j, j < n → bN (repS ⟨#[119]⟩ n) j = 119 := by
  intro n
  induction n with
  | zero => intro j h; omega
  | succ n ih =>
    intro j h
    have hs := repW_size ⟨#[119]⟩ n
    rw [show (⟨#[119]⟩ : ByteArray).size = 1 from rfl, Nat.mul_one] at hs
    rw [repS]
    by_cases hj : j < n
    · rw [bN_left _ _ _ (by omega)]; exact ih j hj
    · rw [bN_right _ _ _ (by omega) (by rw [show (⟨#[119]⟩ : ByteArray).size = 1 from rfl]; omega), show j - (repS ⟨#[119]⟩ n).size = 0 by omega]; rfl
theorem repW_size1 (n : Nat) : (repS ⟨#[119]⟩ n).size = n := by rw [repW_size, show (⟨#[119]⟩ : ByteArray).size = 1 from rfl, Nat.mul_one]
theorem repW_word (n : Nat) : wordB (repS ⟨#[119]⟩ n) = decide (1 ≤ n ∧ n ≤ 128) := by
  rw [wordB, bytesF_all plainB _ (fun j hj => by rw [repW_at n j (by rw [repW_size1] at hj; exact hj)]; rfl), repW_size1, Bool.and_true]
theorem repW_token (n : Nat) : tokenB (repS ⟨#[119]⟩ n) = decide (1 ≤ n) := by
  rw [tokenB, bytesF_all tokB _ (fun j hj => by rw [repW_at n j (by rw [repW_size1] at hj; exact hj)]; rfl), repW_size1, Bool.and_true]
theorem repE_name (k : Nat) (h : k < 40) : nameB (repS ⟨#[226, 130, 172]⟩ k) = decide (1 ≤ k ∧ k ≤ 24) := by
  obtain ⟨h1, h2⟩ := rep_euro ⟨k, h⟩
  rw [nameB, h1, h2, Bool.and_true]

end Go.Proofs.Yteohbkfogebldaa
