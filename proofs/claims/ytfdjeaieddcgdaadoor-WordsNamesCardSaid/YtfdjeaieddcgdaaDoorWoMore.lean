/-
  WHAT IS PROVED: plain mathematics of words: with words ahead of them; where they go wrong.
-/
import Derived.Test.YtfdjeaieddcgdaaDoorWoAgain
namespace Go.Proofs.YtfdjeaieddcgdaaDoor

/-- with n words more ahead of it a text has the same words, or too many -/
def MoreOf (n j : Nat) (r s : Res) : Prop := match r with
  | .ok m => if n + j + m.length ≤ 1024 then s = .ok m else ∃ p, s = .bad p 3
  | .bad p e => s = .bad p e ∨ (0 < n ∧ ∃ p', s = .bad p' 3)
theorem lexB_more : ∀ (f n j a : Nat) (l : List UInt8), l.length < f → n + j ≤ 1024 → MoreOf n j (lexB j a l) (lexB (n + j) a l)
  | 0, _, _, _, _, h, _ => by omega
  | f + 1, n, j, a, l, h, hn => by
    cases hr : l.dropWhile blank with
    | nil =>
      rw [lexB_nil _ _ _ hr, lexB_nil _ _ _ hr]
      show if n + j + 0 ≤ 1024 then _ else _
      rw [if_pos (by omega)]
    | cons c r =>
      have hle := run_drop_len blank l
      rw [hr, List.length_cons] at hle
      rw [lexB_cons _ _ _ _ _ hr, lexB_cons _ _ _ _ _ hr]
      obtain ⟨z, hz⟩ : ∃ z, extentB (c :: r) = z := ⟨_, rfl⟩
      rw [hz]
      have hno : ∀ q, stepB 1024 q = .no 3 := fun q => by unfold stepB; rw [if_pos rfl]
      by_cases hj : n + j = 1024
      · rw [hj, hno]
        by_cases h0 : n = 0
        · subst h0
          rw [show j = 1024 by omega, hno]
          exact .inl rfl
        · dsimp only
          cases stepB j ((c :: r).take z) with
          | no e => exact .inr ⟨by omega, _, rfl⟩
          | yes kk t i =>
            dsimp only
            cases lexB (j + 1) (a + runB blank l + z) ((c :: r).drop z) with
            | bad p e => exact .inr ⟨by omega, _, rfl⟩
            | ok m =>
              show if n + j + (m.length + 1) ≤ 1024 then _ else _
              rw [if_neg (by omega)]
              exact ⟨_, rfl⟩
      · have hs : stepB (n + j) ((c :: r).take z) = stepB j ((c :: r).take z) := by unfold stepB; rw [if_neg hj, if_neg (by omega)]
        rw [hs]
        cases hs2 : stepB j ((c :: r).take z) with
        | no e => exact .inl rfl
        | yes kk t i =>
          have h0 := yes_pos hs2
          dsimp only
          have ih := lexB_more f n (j + 1) (a + runB blank l + z) ((c :: r).drop z) (by rw [List.length_drop, List.length_cons]; omega) (by omega)
          rw [← Nat.add_assoc] at ih
          cases hq : lexB (j + 1) (a + runB blank l + z) ((c :: r).drop z) with
          | bad p e =>
            rw [hq] at ih
            rcases ih with h1 | ⟨h1, p', h2⟩
            · rw [h1]; exact .inl rfl
            · rw [h2]; exact .inr ⟨h1, _, rfl⟩
          | ok m =>
            rw [hq] at ih
            have ih' : if n + (j + 1) + m.length ≤ 1024 then _ else _ := ih
            show if n + j + (m.length + 1) ≤ 1024 then _ else _
            by_cases hm : n + (j + 1) + m.length ≤ 1024
            · rw [if_pos hm] at ih'
              rw [if_pos (by omega), ih']; rfl
            · rw [if_neg hm] at ih'
              obtain ⟨p', h2⟩ := ih'
              rw [if_neg (by omega), h2]
              exact ⟨_, rfl⟩

theorem lexB_lt (p e : Nat) : ∀ (f n a : Nat) (l : List UInt8), l.length < f → lexB n a l = .bad p e → p < a + l.length
  | 0, _, _, _, h, _ => by omega
  | f + 1, n, a, l, h, hb => by
    cases hr : l.dropWhile blank with
    | nil => rw [lexB_nil _ _ _ hr] at hb; cases hb
    | cons c r =>
      have hle := run_drop_len blank l
      rw [hr, List.length_cons] at hle
      rw [lexB_cons _ _ _ _ _ hr] at hb
      have hzl := extentB_le (c :: r)
      obtain ⟨z, hz⟩ : ∃ z, extentB (c :: r) = z := ⟨_, rfl⟩
      rw [hz] at hb hzl
      rw [List.length_cons] at hzl
      cases hs : stepB n ((c :: r).take z) with
      | no e' => rw [hs] at hb; cases hb; omega
      | yes kk t i =>
        have h0 := yes_pos hs
        rw [hs] at hb
        dsimp only at hb
        cases hl : lexB (n + 1) (a + runB blank l + z) ((c :: r).drop z) with
        | ok m => rw [hl] at hb; cases hb
        | bad p' e' =>
          rw [hl] at hb
          cases hb
          have := lexB_lt p e f (n + 1) _ _ (by rw [List.length_drop, List.length_cons]; omega) hl
          rw [List.length_drop, List.length_cons] at this
          omega

theorem step_err {n : Nat} {q : List UInt8} {e : Nat} (h : stepB n q = .no e) : e ≠ 0 := by
  unfold stepB at h
  split at h
  · cases h; decide
  · cases q with
    | nil => cases h; decide
    | cons c r =>
      simp only [wordB] at h
      split at h
      · split at h
        · cases h; decide
        · cases h
      · split at h
        · split at h
          · cases h; decide
          · cases h
        · split at h
          · split at h
            · cases h; decide
            · cases h
          · cases h
theorem lexB_err' (p e : Nat) : ∀ (f n a : Nat) (l : List UInt8), l.length < f → lexB n a l = .bad p e → e ≠ 0
  | 0, _, _, _, h, _ => by omega
  | f + 1, n, a, l, h, hb => by
    cases hr : l.dropWhile blank with
    | nil => rw [lexB_nil _ _ _ hr] at hb; cases hb
    | cons c r =>
      have hle := run_drop_len blank l
      rw [hr, List.length_cons] at hle
      rw [lexB_cons _ _ _ _ _ hr] at hb
      obtain ⟨z, hz⟩ : ∃ z, extentB (c :: r) = z := ⟨_, rfl⟩
      rw [hz] at hb
      cases hs : stepB n ((c :: r).take z) with
      | no e' => rw [hs] at hb; cases hb; exact step_err hs
      | yes kk t i =>
        have h0 := yes_pos hs
        rw [hs] at hb
        dsimp only at hb
        cases hl : lexB (n + 1) (a + runB blank l + z) ((c :: r).drop z) with
        | ok m => rw [hl] at hb; cases hb
        | bad p' e' =>
          rw [hl] at hb
          cases hb
          exact lexB_err' p e f (n + 1) _ _ (by rw [List.length_drop, List.length_cons]; omega) hl
theorem lexB_err (p e n a : Nat) (l : List UInt8) (h : lexB n a l = .bad p e) : e ≠ 0 := lexB_err' p e _ n a l (Nat.lt_succ_self _) h
theorem ofB_len {s : List UInt8} {m : List WordM} (h : ofB s = .ok m) : m.length ≤ 1024 := by
  rw [ofB_lex] at h
  split at h
  · cases h
  · have := (fine_all m (s.length + 1) 0 0 s (by omega) (by omega) h).2
    omega
theorem ofB_fine {s : List UInt8} {m : List WordM} (h : ofB s = .ok m) : ∀ w ∈ m, FineW w := by
  rw [ofB_lex] at h
  split at h
  · cases h
  · exact (fine_all m (s.length + 1) 0 0 s (by omega) (by omega) h).1

theorem alike_shift (k : Nat) : ∀ m : List WordM, Alike m (m.map fun w => { w with pos := w.pos + k })
  | [] => trivial
  | _ :: m => ⟨⟨rfl, rfl, rfl⟩, alike_shift k m⟩
theorem alike_refl : ∀ m : List WordM, Alike m m
  | [] => trivial
  | _ :: m => ⟨⟨rfl, rfl, rfl⟩, alike_refl m⟩
theorem alike_app : ∀ (l l' m m' : List WordM), Alike l l' → Alike m m' → Alike (l ++ m) (l' ++ m')
  | [], [], _, _, _, h => h
  | _ :: l, _ :: l', m, m', h, h' => ⟨h.1, alike_app l l' m m' h.2 h'⟩
  | [], _ :: _, _, _, h, _ => h.elim
  | _ :: _, [], _, _, h, _ => h.elim

/-- what a text is, a blank, and another one -/
theorem join_ways (A B : List UInt8) (h : A.length + B.length ≤ 4000) :
    (∃ p, ofB A = .bad p 4 ∧ A[p]? = some 39) ∨ (∃ p e, ofB A = .bad p e ∧ ¬ (e = 4 ∧ A[p]? = some 39) ∧ ofB (A ++ 32 :: B) = .bad p e) ∨
    (∃ l m p, ofB A = .ok l ∧ ofB B = .ok m ∧ 1024 < l.length + m.length ∧ ofB (A ++ 32 :: B) = .bad p 3) ∨
    (∃ l m o, ofB A = .ok l ∧ ofB B = .ok m ∧ l.length + m.length ≤ 1024 ∧ ofB (A ++ 32 :: B) = .ok o ∧ Alike (l ++ m) o) ∨
    (∃ l k e, ofB A = .ok l ∧ l.length ≤ 1024 ∧ ofB B = .bad k e ∧ ofB (A ++ 32 :: B) = .bad (k + A.length + 1) e) ∨
    (∃ l k e p, ofB A = .ok l ∧ l.length ≤ 1024 ∧ 0 < l.length ∧ ofB B = .bad k e ∧ ofB (A ++ 32 :: B) = .bad p 3) := by
  have eA : ofB A = lexB 0 0 A := by rw [ofB_lex, if_neg (by omega)]
  have eB : ofB B = lexB 0 0 B := by rw [ofB_lex, if_neg (by omega)]
  have eC : ofB (A ++ 32 :: B) = lexB 0 0 (A ++ 32 :: B) := by rw [ofB_lex, if_neg (by simp; omega)]
  rw [eA, eB, eC]
  cases hA : lexB 0 0 A with
  | bad p e =>
    by_cases hq : e = 4 ∧ A[p]? = some 39
    · obtain ⟨rfl, hq⟩ := hq
      exact .inl ⟨p, rfl, hq⟩
    · right; left
      refine ⟨p, e, rfl, hq, ?_⟩
      rw [lexB_app (32 :: B) (ends_blank B) (A.length + 1) 0 0 A (by omega) (fun p' e' hb => .inr (by rw [hA] at hb; cases hb; exact hq)), hA]
  | ok l =>
    have hl := (fine_all l (A.length + 1) 0 0 A (by omega) (by omega) hA).2
    rw [lexB_app (32 :: B) (ends_blank B) (A.length + 1) 0 0 A (by omega) (fun p' e' hb => by rw [hA] at hb; cases hb), hA]
    dsimp only
    rw [Nat.zero_add, Nat.zero_add, lexB_blank]
    have hm := lexB_more (B.length + 1) l.length 0 (A.length + 1) B (by omega) (by omega)
    have hsh := lexB_shift (A.length + 1) (B.length + 1) 0 0 B (by omega)
    rw [Nat.zero_add] at hsh
    rw [hsh] at hm
    simp only [Nat.add_zero] at hm
    cases hB : lexB 0 0 B with
    | bad k e =>
      rw [hB] at hm
      rcases hm with h1 | ⟨h1, p', h2⟩
      · right; right; right; right; left
        refine ⟨l, k, e, rfl, by omega, rfl, ?_⟩
        rw [h1]; show Res.bad _ _ = _; rw [Nat.add_assoc]
      · right; right; right; right; right
        refine ⟨l, k, e, p', rfl, by omega, h1, rfl, ?_⟩
        rw [h2]; rfl
    | ok m =>
      rw [hB] at hm
      have hm' : if l.length + (m.map fun w => { w with pos := w.pos + (A.length + 1) }).length ≤ 1024 then _ else _ := hm
      rw [List.length_map] at hm'
      by_cases hs : l.length + m.length ≤ 1024
      · rw [if_pos hs] at hm'
        right; right; right; left
        exact ⟨l, m, _, rfl, rfl, hs, by rw [hm']; rfl, alike_app _ _ _ _ (alike_refl l) (alike_shift _ m)⟩
      · rw [if_neg hs] at hm'
        obtain ⟨p, hp⟩ := hm'
        right; right; left
        exact ⟨l, m, p, rfl, rfl, by omega, by rw [hp]; rfl⟩
end Go.Proofs.YtfdjeaieddcgdaaDoor
