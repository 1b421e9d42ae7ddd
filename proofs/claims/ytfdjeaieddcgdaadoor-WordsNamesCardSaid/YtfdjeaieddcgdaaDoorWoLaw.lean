/-
  WHAT IS PROVED: plain mathematics of the statements on words.
-/
import Derived.Test.YtfdjeaieddcgdaaDoorWoMore
namespace Go.Proofs.YtfdjeaieddcgdaaDoor

/-- where there are few bytes left the count of words says nothing -/
theorem lexB_free : ∀ (f n j a : Nat) (l : List UInt8), l.length < f → n + l.length < 1024 → j + l.length < 1024 → lexB n a l = lexB j a l
  | 0, _, _, _, _, h, _, _ => by omega
  | f + 1, n, j, a, l, h, hn, hj => by
    cases hr : l.dropWhile blank with
    | nil => rw [lexB_nil _ _ _ hr, lexB_nil _ _ _ hr]
    | cons c r =>
      have hle := run_drop_len blank l
      rw [hr, List.length_cons] at hle
      rw [lexB_cons _ _ _ _ _ hr, lexB_cons _ _ _ _ _ hr]
      obtain ⟨z, hz⟩ : ∃ z, extentB (c :: r) = z := ⟨_, rfl⟩
      rw [hz]
      have hs : stepB n ((c :: r).take z) = stepB j ((c :: r).take z) := by unfold stepB; rw [if_neg (by omega), if_neg (by omega)]
      rw [hs]
      cases hs2 : stepB j ((c :: r).take z) with
      | no e => rfl
      | yes kk t i =>
        have h0 := yes_pos hs2
        dsimp only
        rw [lexB_free f (n + 1) (j + 1) _ _ (by rw [List.length_drop, List.length_cons]; omega) (by rw [List.length_drop, List.length_cons]; omega) (by rw [List.length_drop, List.length_cons]; omega)]

theorem lexB_blanks : ∀ (A l : List UInt8) (n a : Nat), (∀ c ∈ A, blank c = true) → lexB n a (A ++ l) = lexB n (a + A.length) l
  | [], l, n, a, _ => by simp
  | c :: A, l, n, a, h => by
    have ih := lexB_blanks A l n (a + 1) (fun d hd => h d (List.mem_cons_of_mem _ hd))
    have hc := h c List.mem_cons_self
    rw [List.cons_append, List.length_cons, show a + (A.length + 1) = a + 1 + A.length by omega, ← ih]
    have hd : (c :: (A ++ l)).dropWhile blank = (A ++ l).dropWhile blank := by rw [List.dropWhile_cons_of_pos hc]
    have hr : runB blank (c :: (A ++ l)) = runB blank (A ++ l) + 1 := by rw [runB_cons, if_pos hc]
    cases hx : (A ++ l).dropWhile blank with
    | nil => rw [hx] at hd; rw [lexB_nil _ _ _ hd, lexB_nil _ _ _ hx]
    | cons d r =>
      rw [hx] at hd
      rw [lexB_cons _ _ _ _ _ hd, lexB_cons _ _ _ _ _ hx, hr, show a + (runB blank (A ++ l) + 1) = a + 1 + runB blank (A ++ l) by omega]

/-- blanks ahead and behind -/
theorem ofB_between (A S B : List UInt8) (hA : ∀ c ∈ A, blank c = true) (hB : ∀ c ∈ B, blank c = true) (hl : A.length + S.length + B.length ≤ 4096) : ofB (A ++ S ++ B) = (ofB S).shift A.length := by
  rw [ofB_lex, ofB_lex, if_neg (by simp; omega), if_neg (by omega), List.append_assoc, lexB_blanks A _ 0 0 hA, lexB_shift A.length (S.length + B.length + 1) 0 0 (S ++ B) (by simp)]
  congr 1
  have hx : Ends B := fun c r e => hB c (by rw [e]; exact List.mem_cons_self)
  have h39 : (39 : UInt8) ∉ B := fun h => by have := hB _ h; revert this; decide
  rw [lexB_app B hx (S.length + 1) 0 0 S (by omega) (fun p e _ => .inl h39)]
  cases lexB 0 0 S with
  | bad p e => rfl
  | ok m =>
    dsimp only
    have := lexB_blanks B [] (0 + m.length) (0 + S.length) hB
    rw [List.append_nil] at this
    rw [this, lexB_nil _ _ _ rfl]
    simp [Res.behind]

/-- one word alone -/
theorem ofB_one (g : Bool) (w : WordM) (hw : FineW w) (hp : w.pos = 0) (h : (textW g w).length ≤ 4096) : ofB (textW g w) = .ok [w] := by
  rw [ofB_lex, if_neg (by omega)]
  have := lexB_word g w hw [] ends_nil 0 0 (by omega)
  rw [List.append_nil, lexB_nil _ _ [] rfl] at this
  rw [this]
  obtain ⟨k, s, i, p⟩ := w
  simp only at hp
  subst hp
  rfl

/-! ### Texts -/
def textT (S : List UInt8) : List UInt8 := 39 :: (dblB S ++ [39])
theorem textT_len (S : List UInt8) : 2 ≤ (textT S).length ∧ (textT S).length ≤ 2 * S.length + 2 := by
  unfold textT
  have : (dblB S).length ≤ 2 * S.length := by
    induction S with
    | nil => simp [dblB]
    | cons c t ih => rw [dblB_cons, List.length_append, List.length_cons]; split <;> simp <;> omega
  simp; omega
theorem text_cons (S M : List UInt8) (n a : Nat) : lexB n a (textT S ++ 32 :: M) = match stepB n (textT S) with
    | .no e => .bad a e
    | .yes k t i => (lexB (n + 1) (a + (textT S).length) (32 :: M)).cons ⟨k, t, i, a⟩ := by
  have h : (textT S ++ 32 :: M).dropWhile blank = 39 :: (dblB S ++ 39 :: 32 :: M) := by unfold textT; simp [show blank 39 = false by decide]
  have e : textT S ++ 32 :: M = 39 :: (dblB S ++ 39 :: 32 :: M) := by unfold textT; simp
  have hz : extentB (39 :: (dblB S ++ 39 :: 32 :: M)) = (textT S).length := by
    simp only [extentB]
    rw [if_neg (by decide), if_neg (by decide), if_pos trivial]
    unfold quotedB
    rw [List.tail_cons, closeB_dbl _ (ends_blank M)]
    unfold textT; simp
  rw [lexB_cons _ _ _ _ _ h, hz, ← e]
  have hb : runB blank (textT S ++ 32 :: M) = 0 := by rw [e, runB_cons, if_neg (by decide)]
  rw [hb, List.take_append_of_le_length (Nat.le_refl _), List.take_length, List.drop_append_of_le_length (Nat.le_refl _), List.drop_length, List.nil_append]; rfl
theorem wordB_text (S : List UInt8) : wordB (textT S) = if 512 < S.length then .no 3 else .yes 3 S 0 := by
  have hin : insideB (textT S) = dblB S := by
    unfold insideB textT
    rw [List.drop_succ_cons, List.drop_zero, List.take_append_of_le_length (by simp)]
    simp
  have h : wordB (39 :: (dblB S ++ [39])) = if 512 < (undbl (insideB (39 :: (dblB S ++ [39])))).length then Got.no 3 else .yes 3 (undbl (insideB (39 :: (dblB S ++ [39])))) 0 := by
    simp only [wordB]
    rw [if_neg (by decide), if_neg (by decide), if_pos trivial]
  unfold textT at hin ⊢
  rw [h, hin, undbl_dbl]
theorem texts_long (S M : List UInt8) (h : 512 < S.length) (hl : S.length ≤ 1500) (hm : M.length ≤ 500) : ofB (textT S ++ 32 :: M) = .bad 0 3 := by
  have := textT_len S
  rw [ofB_lex, if_neg (by simp; omega), text_cons]
  unfold stepB
  rw [if_neg (by omega), wordB_text, if_pos h]
theorem texts_bad (S M : List UInt8) (k f : Nat) (h : S.length ≤ 512) (hm : M.length ≤ 500) (hb : ofB M = .bad k f) : ofB (textT S ++ 32 :: M) = .bad (k + (textT S).length + 1) f := by
  have := textT_len S
  rw [ofB_lex, if_neg (by omega)] at hb
  rw [ofB_lex, if_neg (by simp; omega), text_cons]
  unfold stepB
  rw [if_neg (by omega), wordB_text, if_neg (by omega)]
  dsimp only
  rw [lexB_blank, lexB_free (M.length + 1) (0 + 1) 0 _ M (by omega) (by omega) (by omega), show 0 + (textT S).length + 1 = 0 + ((textT S).length + 1) by omega, lexB_shift _ (M.length + 1) 0 0 M (by omega), hb]
  show Res.bad _ _ = _
  rw [Nat.add_assoc]
theorem texts_ok (S M : List UInt8) (m : List WordM) (h : S.length ≤ 512) (hm : M.length ≤ 500) (hb : ofB M = .ok m) : ∃ o, ofB (textT S ++ 32 :: M) = .ok (⟨3, S, 0, 0⟩ :: o) := by
  have := textT_len S
  rw [ofB_lex, if_neg (by omega)] at hb
  rw [ofB_lex, if_neg (by simp; omega), text_cons]
  unfold stepB
  rw [if_neg (by omega), wordB_text, if_neg (by omega)]
  dsimp only
  rw [lexB_blank, lexB_free (M.length + 1) (0 + 1) 0 _ M (by omega) (by omega) (by omega), show 0 + (textT S).length + 1 = 0 + ((textT S).length + 1) by omega, lexB_shift _ (M.length + 1) 0 0 M (by omega), hb]
  exact ⟨_, rfl⟩
theorem texts_open (S : List UInt8) (h : S.length ≤ 1500) : ofB (39 :: dblB S) = .bad 0 4 := by
  have hd := textT_len S
  unfold textT at hd
  have h1 : (39 :: dblB S).dropWhile blank = 39 :: dblB S := by rw [List.dropWhile_cons_of_neg (by decide)]
  rw [ofB_lex, if_neg (by simp at hd ⊢; omega), lexB_cons _ _ _ _ _ h1]
  have hz : extentB (39 :: dblB S) = 0 := by
    simp only [extentB]
    rw [if_neg (by decide), if_neg (by decide), if_pos trivial]
    unfold quotedB
    rw [List.tail_cons, closeB_open]
  rw [hz, List.take_zero]
  unfold stepB
  rw [if_neg (by omega), wordB_nil rfl, runB_cons, if_neg (by decide)]

/-! ### Numbers -/
theorem ofB_digits (D : List UInt8) (hD : D ≠ []) (h : ∀ c ∈ D, digitB c = true) (hl : D.length ≤ 4096) : ofB D = if valB 0 D < 9223372036854775808 then .ok [⟨2, [], valB 0 D, 0⟩] else .bad 0 12 := by
  cases D with
  | nil => exact absurd rfl hD
  | cons c r =>
    have hc := h c List.mem_cons_self
    obtain ⟨n1, n2⟩ := digit_not c hc
    have h1 : (c :: r).dropWhile blank = c :: r := by rw [List.dropWhile_cons_of_neg (by rw [n1]; simp)]
    have hz : extentB (c :: r) = (c :: r).length := by
      simp only [extentB]
      rw [if_neg (by rw [n2]; simp), if_pos hc, run_whole digitB _ h]
    rw [ofB_lex, if_neg (by omega), lexB_cons _ _ _ _ _ h1, hz, List.take_length, List.drop_length]
    have hw : wordB (c :: r) = match numB (c :: r) with | none => .no 12 | some n => .yes 2 [] n := by
      show (if letter c then _ else if digitB c then _ else _) = _
      rw [if_neg (by rw [n2]; simp), if_pos hc]
      cases numB (c :: r) <;> rfl
    unfold stepB
    rw [if_neg (by omega), hw, numB_val _ (by simp) h, runB_cons, n1]
    by_cases hv : valB 0 (c :: r) < 9223372036854775808
    · rw [if_pos hv, if_pos hv]
      dsimp only
      rw [lexB_nil _ _ _ rfl]; rfl
    · rw [if_neg hv, if_neg hv]; rfl

/-! ### Many -/
def pairs (c : UInt8) : Nat → List UInt8
  | 0 => []
  | k + 1 => pairs c k ++ [c, 32]
theorem pairs_len (c : UInt8) : ∀ k, (pairs c k).length = 2 * k
  | 0 => rfl
  | k + 1 => by rw [pairs, List.length_append, pairs_len c k]; simp; omega
theorem pairs_cons (c : UInt8) : ∀ k, pairs c (k + 1) = c :: 32 :: pairs c k
  | 0 => rfl
  | k + 1 => by
    conv => lhs; rw [pairs, pairs_cons c k]
    rfl
theorem pairs_lex (c : UInt8) (hc : FineW ⟨4, [c], 0, 0⟩) : ∀ (k n a : Nat), n ≤ 1024 → (n + k ≤ 1024 → ∃ m, lexB n a (pairs c k) = .ok m ∧ m.length = k) ∧ (1024 < n + k → lexB n a (pairs c k) = .bad (a + 2 * (1024 - n)) 3)
  | 0, n, a, hn => ⟨fun _ => ⟨[], lexB_nil _ _ _ rfl, rfl⟩, fun h => by omega⟩
  | k + 1, n, a, hn => by
    have ht : textW false ⟨4, [c], 0, 0⟩ = [c] := rfl
    rw [pairs_cons]
    by_cases h0 : n = 1024
    · subst h0
      refine ⟨fun h => by omega, fun _ => ?_⟩
      obtain ⟨⟨d, r, h1, h2⟩, _⟩ := textW_reads false ⟨4, [c], 0, 0⟩ hc (32 :: pairs c k) (ends_blank _)
      rw [ht] at h1
      have hd : (c :: 32 :: pairs c k).dropWhile blank = d :: r := by
        have : c :: 32 :: pairs c k = d :: r := h1
        rw [this, List.dropWhile_cons_of_neg (by rw [h2]; simp)]
      have hb : runB blank (c :: 32 :: pairs c k) = 0 := by
        have : c :: 32 :: pairs c k = d :: r := h1
        rw [this, runB_cons, h2]; rfl
      rw [lexB_cons _ _ _ _ _ hd, hb]
      unfold stepB
      rw [if_pos rfl]
    · have h1 := lexB_word false ⟨4, [c], 0, 0⟩ hc (32 :: pairs c k) (ends_blank _) n a h0
      rw [ht, lexB_blank] at h1
      have h2 : lexB n a (c :: 32 :: pairs c k) = (lexB (n + 1) (a + [c].length + 1) (pairs c k)).cons ⟨4, [c], 0, a⟩ := h1
      obtain ⟨i1, i2⟩ := pairs_lex c hc k (n + 1) (a + [c].length + 1) (by omega)
      rw [h2]
      refine ⟨fun h => ?_, fun h => ?_⟩
      · obtain ⟨m, hm, hl⟩ := i1 (by omega)
        rw [hm]
        exact ⟨_, rfl, by rw [List.length_cons, hl]⟩
      · rw [i2 (by omega)]
        show Res.bad _ _ = _
        congr 1
        simp; omega
theorem blanks_lex (k : Nat) (h : k ≤ 4096) : ofB (List.replicate k 32) = .ok [] := by
  rw [ofB_lex, if_neg (by simpa using h)]
  have := lexB_blanks (List.replicate k 32) [] 0 0 (fun c hc => by rw [List.eq_of_mem_replicate hc]; decide)
  rw [List.append_nil] at this
  rw [this, lexB_nil _ _ _ rfl]
theorem ofB_long (s : List UInt8) (h : 4096 < s.length) : ofB s = .bad 0 3 := by unfold ofB; rw [if_pos h]

/-! ### Sizes of texts -/
theorem textW_same (w : WordM) : (textW true w).length = (textW false w).length := by
  unfold textW
  split
  · rfl
  · split
    · rfl
    · simp
theorem textL_same : ∀ l : List WordM, (textL true l).length = (textL false l).length
  | [] => rfl
  | [w] => textW_same w
  | w :: v :: l => by
    have := textL_same (v :: l)
    simp only [textL, List.length_append, List.length_cons] at this ⊢
    rw [textW_same w, this]
theorem textW_le (g : Bool) (w : WordM) (h : FineW w) : (textW g w).length ≤ 1030 := by
  rcases h.kinds with k | k | k | k
  · have h1 := (h.name k).2.2.1
    unfold textW
    rw [if_neg (by omega), if_neg (by omega)]
    cases g <;> simp <;> omega
  · unfold textW
    rw [if_pos k]
    unfold digitsB
    split
    · simp
    · have : ∀ (f n : Nat) (l : List UInt8), (digF f n l).length ≤ f + l.length := by
        intro f
        induction f with
        | zero => intro n l; simp [digF]
        | succ f ih =>
          intro n l
          unfold digF
          split
          · omega
          · have := ih (n / 10) (UInt8.ofNat (48 + n % 10) :: l)
            simp at this ⊢; omega
      have := this 20 w.i []
      simp at this; omega
  · have h1 := (h.text k).1
    have h2 := textT_len w.s
    unfold textW
    rw [if_neg (by omega), if_pos k]
    unfold textT at h2
    omega
  · have hm := (h.sign k).1
    have : signsB.all (fun y => decide (y.length ≤ 1000)) = true := by decide
    have h1 := of_decide_eq_true (List.all_eq_true.1 this _ hm)
    unfold textW
    rw [if_neg (by omega), if_neg (by omega)]
    cases g <;> simp <;> omega
theorem textL_bound (g : Bool) : ∀ l : List WordM, (∀ w ∈ l, FineW w) → (textL g l).length ≤ 1100 * l.length
  | [], _ => by simp [textL]
  | [w], h => by have := textW_le g w (h w List.mem_cons_self); simp [textL]; omega
  | w :: v :: l, h => by
    have h1 := textW_le g w (h w List.mem_cons_self)
    have h2 := textL_bound g (v :: l) (fun x hx => h x (List.mem_cons_of_mem _ hx))
    simp only [textL, List.length_append, List.length_cons] at h2 ⊢
    omega
theorem again_ok (s : List UInt8) (l : List WordM) (g : Bool) (h : ofB s = .ok l) (ht : (textL g l).length ≤ 4096) : ∃ o, ofB (textL g l) = .ok o ∧ Alike l o := by
  rw [ofB_lex, if_neg (by omega)]
  exact lexB_again g l 0 0 (ofB_fine h) (by have := ofB_len h; omega)
theorem ofB_rise {s : List UInt8} {l : List WordM} (h : ofB s = .ok l) : ∀ j w, l[j]? = some w → w.pos < s.length ∧ ∀ v, l[j + 1]? = some v → w.pos < v.pos := by
  rw [ofB_lex] at h
  split at h
  · cases h
  · intro j w hj
    have := lexB_rise l (s.length + 1) 0 0 s (by omega) h j w hj
    exact ⟨by omega, this.2.2⟩
end Go.Proofs.YtfdjeaieddcgdaaDoor
