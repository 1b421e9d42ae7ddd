/-
  WHAT IS PROVED: plain mathematics of words: what stands behind a blank says nothing of the words ahead of it.
-/
import Derived.Test.YtfdjeaieddcgdaaDoorWoPure
namespace Go.Proofs.YtfdjeaieddcgdaaDoor

def Res.shift (k : Nat) : Res → Res
  | .ok l => .ok (l.map fun w => { w with pos := w.pos + k })
  | .bad a e => .bad (a + k) e
def Res.behind (l : List WordM) : Res → Res
  | .ok m => .ok (l ++ m)
  | .bad a e => .bad a e
/-- what ends each word: a blank, or nothing -/
def Ends (x : List UInt8) : Prop := ∀ c r, x = c :: r → blank c = true

theorem blank_cases {c : UInt8} (h : blank c = true) : c = 32 ∨ c = 9 ∨ c = 10 ∨ c = 13 := by
  unfold blank at h
  simp only [Bool.or_eq_true, beq_iff_eq] at h
  rcases h with ((h | h) | h) | h
  · exact .inl (u8_eq h)
  · exact .inr (.inl (u8_eq h))
  · exact .inr (.inr (.inl (u8_eq h)))
  · exact .inr (.inr (.inr (u8_eq h)))

theorem follow_blank {c : UInt8} (h : blank c = true) : follow c = false := by rcases blank_cases h with rfl | rfl | rfl | rfl <;> decide
theorem digitB_blank {c : UInt8} (h : blank c = true) : digitB c = false := by rcases blank_cases h with rfl | rfl | rfl | rfl <;> decide

theorem runB_app (p : UInt8 → Bool) (hp : ∀ c, blank c = true → p c = false) (l x : List UInt8) (hx : Ends x) : runB p (l ++ x) = runB p l := by
  induction l with
  | nil =>
    cases x with
    | nil => rfl
    | cons c r => rw [List.nil_append, runB_cons, hp c (hx c r rfl)]; rfl
  | cons c r ih => rw [List.cons_append, runB_cons, runB_cons, ih]

theorem closeB_app : ∀ (l x : List UInt8) (k : Nat), Ends x → closeB l = some k → closeB (l ++ x) = some k
  | [], x, k, _, h => by cases h
  | [c], x, k, hx, h => by
    simp only [closeB] at h
    split at h
    · rename_i hc
      cases h
      subst hc
      cases x with
      | nil => rfl
      | cons d r =>
        have hd : d ≠ 39 := fun e => by have := hx d r rfl; subst e; revert this; decide
        simp [closeB, hd]
    · cases h
  | c :: d :: r, x, k, hx, h => by
    simp only [closeB, List.cons_append] at h ⊢
    split at h
    · rename_i hc
      rw [if_pos hc]
      split at h
      · rename_i hd
        rw [if_pos hd]
        cases e : closeB r with
        | none => rw [e] at h; cases h
        | some m => rw [e] at h; rw [closeB_app r x m hx e]; exact h
      · rename_i hd
        rw [if_neg hd]; exact h
    · rename_i hc
      rw [if_neg hc]
      cases e : closeB (d :: r) with
      | none => rw [e] at h; cases h
      | some m => rw [e] at h; rw [← List.cons_append, closeB_app (d :: r) x m hx e]; exact h

theorem closeB_none : ∀ (l x : List UInt8), (39 : UInt8) ∉ x → closeB l = none → closeB (l ++ x) = none
  | [], [], _, _ => rfl
  | [], [c], hx, _ => by
    have : c ≠ 39 := fun e => hx (by simp [e])
    simp [closeB, this]
  | [], c :: d :: r, hx, _ => by
    have : c ≠ 39 := fun e => hx (by simp [e])
    have h2 := closeB_none [] (d :: r) (fun h => hx (List.mem_cons_of_mem _ h)) rfl
    rw [List.nil_append] at h2 ⊢
    simp [closeB, this, h2]
  | [c], [], hx, h => by rw [List.append_nil]; exact h
  | [c], d :: r, hx, h => by
    simp only [closeB] at h
    split at h
    · cases h
    · rename_i hc
      have h2 := closeB_none [] (d :: r) hx rfl
      rw [List.nil_append] at h2
      simp [closeB, hc, h2]
  | c :: d :: r, x, hx, h => by
    simp only [closeB, List.cons_append] at h ⊢
    split at h
    · rename_i hc
      rw [if_pos hc]
      split at h
      · rename_i hd
        rw [if_pos hd]
        cases e : closeB r with
        | none => rw [closeB_none r x hx e]; rfl
        | some m => rw [e] at h; cases h
      · cases h
    · rename_i hc
      rw [if_neg hc]
      cases e : closeB (d :: r) with
      | none => rw [← List.cons_append, closeB_none (d :: r) x hx e]; rfl
      | some m => rw [e] at h; cases h
termination_by l x => l.length + x.length

theorem find_congr {α : Type} (p q : α → Bool) : ∀ l : List α, (∀ x ∈ l, p x = q x) → l.find? p = l.find? q
  | [], _ => rfl
  | x :: l, h => by
    rw [List.find?_cons, List.find?_cons, h x List.mem_cons_self, find_congr p q l (fun y hy => h y (List.mem_cons_of_mem _ hy))]

theorem signB_app (l x : List UInt8) (hl : l ≠ []) (hx : Ends x) : signB (l ++ x) = signB l := by
  unfold signB
  rw [find_congr _ (fun y => y.isPrefixOf l) signsB]
  intro y hy
  cases l with
  | nil => exact absurd rfl hl
  | cons c r =>
    have hy2 : y.length ≤ 2 := by
      have : signsB.all (fun y => decide (y.length ≤ 2)) = true := by decide
      exact of_decide_eq_true (List.all_eq_true.1 this y hy)
    have hyb : ∀ e f, y = [e, f] → blank f = false := by
      have : signsB.all (fun y => match y with | [_, f] => !blank f | _ => true) = true := by decide
      intro e f h
      subst h
      simpa using List.all_eq_true.1 this _ hy
    match y, hy2, hyb with
    | [], _, _ => rfl
    | [e], _, _ => simp [List.isPrefixOf]
    | [e, f], _, hyb =>
      cases r with
      | cons d s => simp [List.isPrefixOf]
      | nil =>
        cases x with
        | nil => rfl
        | cons d s =>
          have hd := hx d s rfl
          have : (f == d) = false := by
            rw [beq_eq_false_iff_ne]; intro h; subst h
            rw [hyb e f rfl] at hd; cases hd
          simp [List.isPrefixOf, this]

/-- a sign that begins a text which does not end -/
def Opens (l : List UInt8) : Prop := l.head? = some 39 ∧ closeB l.tail = none

theorem extentB_app (l x : List UInt8) (hl : l ≠ []) (hx : Ends x) (h : ¬ Opens l ∨ (39 : UInt8) ∉ x) : extentB (l ++ x) = extentB l := by
  cases l with
  | nil => exact absurd rfl hl
  | cons c r =>
    rw [List.cons_append]
    simp only [extentB]
    rw [← List.cons_append, runB_app follow (fun c => follow_blank) (c :: r) x hx, runB_app digitB (fun c => digitB_blank) (c :: r) x hx, signB_app (c :: r) x hl hx]
    by_cases hc : c = 39
    · subst hc
      have : quotedB (39 :: r ++ x) = quotedB (39 :: r) := by
        unfold quotedB
        rw [List.cons_append, List.tail_cons, List.tail_cons]
        cases e : closeB r with
        | some k => rw [closeB_app r x k hx e]
        | none =>
          rcases h with h | h
          · exact absurd ⟨rfl, e⟩ h
          · rw [closeB_none r x h e]
      rw [this]
    · rw [if_neg hc, if_neg hc]

theorem dropWhile_app (p : UInt8 → Bool) (l x : List UInt8) (c : UInt8) (r : List UInt8) (h : l.dropWhile p = c :: r) : (l ++ x).dropWhile p = c :: (r ++ x) := by
  induction l with
  | nil => cases h
  | cons d s ih =>
    rw [List.cons_append]
    cases hp : p d with
    | false =>
      rw [List.dropWhile_cons_of_neg (by simp [hp])] at h ⊢
      rw [← List.cons_append, h]; rfl
    | true =>
      rw [List.dropWhile_cons_of_pos hp] at h ⊢
      exact ih h
theorem dropWhile_nil_app (p : UInt8 → Bool) (l x : List UInt8) (h : l.dropWhile p = []) : (l ++ x).dropWhile p = x.dropWhile p ∧ runB p (l ++ x) = l.length + runB p x := by
  induction l with
  | nil => exact ⟨rfl, by simp⟩
  | cons d s ih =>
    cases hp : p d with
    | false => rw [List.dropWhile_cons_of_neg (by simp [hp])] at h; cases h
    | true =>
      rw [List.dropWhile_cons_of_pos hp] at h
      obtain ⟨h1, h2⟩ := ih h
      rw [List.cons_append, List.dropWhile_cons_of_pos hp, runB_cons, hp, h1, h2]
      exact ⟨rfl, by simp; omega⟩
theorem runB_drop_app (p : UInt8 → Bool) (l x : List UInt8) (c : UInt8) (r : List UInt8) (h : l.dropWhile p = c :: r) : runB p (l ++ x) = runB p l := by
  induction l with
  | nil => cases h
  | cons d s ih =>
    rw [List.cons_append, runB_cons, runB_cons]
    cases hp : p d with
    | false => rfl
    | true => rw [List.dropWhile_cons_of_pos hp] at h; rw [ih h]
theorem run_drop_len (p : UInt8 → Bool) (l : List UInt8) : runB p l + (l.dropWhile p).length = l.length := by
  rw [← drop_run, List.length_drop]; have := runB_le p l; omega

theorem shift_cons (k : Nat) (w : WordM) (r : Res) : (r.cons w).shift k = (r.shift k).cons { w with pos := w.pos + k } := by cases r <;> rfl
theorem behind_cons (l : List WordM) (w : WordM) (r : Res) : (r.behind l).cons w = r.behind (w :: l) := by cases r <;> rfl

theorem lexB_shift (k : Nat) : ∀ (f n a : Nat) (l : List UInt8), l.length < f → lexB n (a + k) l = (lexB n a l).shift k
  | 0, _, _, _, h => by omega
  | f + 1, n, a, l, h => by
    cases hr : l.dropWhile blank with
    | nil => rw [lexB_nil _ _ _ hr, lexB_nil _ _ _ hr]; rfl
    | cons c r =>
      have hle := run_drop_len blank l
      rw [hr, List.length_cons] at hle
      rw [lexB_cons _ _ _ _ _ hr, lexB_cons _ _ _ _ _ hr]
      obtain ⟨z, hz⟩ : ∃ z, extentB (c :: r) = z := ⟨_, rfl⟩
      rw [hz]
      cases hs : stepB n ((c :: r).take z) with
      | no e => show Res.bad _ _ = Res.bad _ _; congr 1; omega
      | yes kk t i =>
        have h0 : 0 < z := by
          apply Nat.pos_of_ne_zero
          intro e
          subst e
          rw [List.take_zero] at hs
          unfold stepB at hs
          rw [wordB_nil rfl] at hs
          split at hs <;> cases hs
        dsimp only
        rw [shift_cons, show a + k + runB blank l + z = (a + runB blank l + z) + k by omega, lexB_shift k f (n + 1) (a + runB blank l + z) ((c :: r).drop z) (by rw [List.length_drop, List.length_cons]; omega)]
        show Res.cons ⟨kk, t, i, a + k + runB blank l⟩ _ = Res.cons ⟨kk, t, i, a + runB blank l + k⟩ _
        rw [show a + k + runB blank l = a + runB blank l + k by omega]

theorem yes_pos {n : Nat} {l : List UInt8} {z kk i : Nat} {t : List UInt8} (hs : stepB n (l.take z) = .yes kk t i) : 0 < z := by
  apply Nat.pos_of_ne_zero
  intro e
  subst e
  rw [List.take_zero] at hs
  unfold stepB at hs
  rw [wordB_nil rfl] at hs
  split at hs <;> cases hs

theorem lexB_ge (p e : Nat) : ∀ (f n a : Nat) (l : List UInt8), l.length < f → lexB n a l = .bad p e → a ≤ p
  | 0, _, _, _, h, _ => by omega
  | f + 1, n, a, l, h, hb => by
    cases hr : l.dropWhile blank with
    | nil => rw [lexB_nil _ _ _ hr] at hb; cases hb
    | cons c r =>
      have hle := run_drop_len blank l
      rw [hr, List.length_cons] at hle
      rw [lexB_cons _ _ _ _ _ hr] at hb
      obtain ⟨z, hz⟩ : ∃ z, extentB (c :: r) = z := ⟨_, rfl⟩
      rw [hz] at hb
      cases hs : stepB n ((c :: r).take z) with
      | no e' => rw [hs] at hb; cases hb; omega
      | yes kk t i =>
        have h0 := yes_pos hs
        rw [hs] at hb
        dsimp only at hb
        cases hl : lexB (n + 1) (a + runB blank l + z) ((c :: r).drop z) with
        | ok m => rw [hl] at hb; cases hb
        | bad p' e' =>
          rw [hl] at hb
          cases hb
          have := lexB_ge p e f (n + 1) _ _ (by rw [List.length_drop, List.length_cons]; omega) hl
          omega

/-- the words of two texts, the second one behind a blank, or nothing: where the first one goes wrong it goes wrong there -/
theorem lexB_app (x : List UInt8) (hx : Ends x) : ∀ (f n a : Nat) (l : List UInt8), l.length < f → (∀ p e, lexB n a l = .bad p e → (39 : UInt8) ∉ x ∨ ¬ (e = 4 ∧ l[p - a]? = some 39)) →
    lexB n a (l ++ x) = match lexB n a l with | .ok m => (lexB (n + m.length) (a + l.length) x).behind m | .bad p e => .bad p e
  | 0, _, _, _, h, _ => by omega
  | f + 1, n, a, l, h, H => by
    cases hr : l.dropWhile blank with
    | nil =>
      obtain ⟨h1, h2⟩ := dropWhile_nil_app blank l x hr
      rw [lexB_nil n a l hr]
      dsimp only
      cases hx' : x.dropWhile blank with
      | nil => rw [hx'] at h1; rw [lexB_nil _ _ _ h1, lexB_nil _ _ _ hx']; rfl
      | cons c r =>
        rw [hx'] at h1
        rw [lexB_cons _ _ _ _ _ h1, lexB_cons _ _ _ _ _ hx', h2]
        simp only [List.length_nil, Nat.add_zero, ← Nat.add_assoc]
        cases stepB n ((c :: r).take (extentB (c :: r))) with
        | no e => rfl
        | yes kk t i =>
          dsimp only
          cases lexB (n + 1) (a + l.length + runB blank x + extentB (c :: r)) ((c :: r).drop (extentB (c :: r))) <;> rfl
    | cons c r =>
      have hle := run_drop_len blank l
      rw [hr, List.length_cons] at hle
      have hdr : l.drop (runB blank l) = c :: r := by rw [drop_run, hr]
      have hlp : l[runB blank l]? = some c := by
        have : (l.drop (runB blank l))[0]? = some c := by rw [hdr]; rfl
        simpa using this
      rw [lexB_cons _ _ _ _ _ hr] at H ⊢
      rw [lexB_cons _ _ _ _ _ (dropWhile_app blank l x c r hr), runB_drop_app blank l x c r hr]
      by_cases hn : n = 1024
      · have hs : ∀ p, stepB n p = .no 3 := fun p => by unfold stepB; rw [if_pos hn]
        rw [hs, hs]
      · have hop : ¬ Opens (c :: r) ∨ (39 : UInt8) ∉ x := by
          by_cases ho : Opens (c :: r)
          · right
            obtain ⟨ho1, ho2⟩ := ho
            have hc : c = 39 := by simpa using ho1
            have hz : extentB (c :: r) = 0 := by
              subst hc
              rw [List.tail_cons] at ho2
              have e1 : letter 39 = false := by decide
              have e2 : digitB 39 = false := by decide
              simp [extentB, e1, e2, quotedB, ho2]
            have hs : stepB n ((c :: r).take (extentB (c :: r))) = .no 4 := by rw [hz]; unfold stepB; rw [if_neg hn]; rfl
            rw [hs] at H
            rcases H _ _ rfl with h1 | h1
            · exact h1
            · exfalso
              apply h1
              refine ⟨rfl, ?_⟩
              rw [Nat.add_sub_cancel_left, hlp, hc]
          · exact .inl ho
        have hz := extentB_app (c :: r) x (by simp) hx hop
        rw [List.cons_append] at hz
        rw [hz]
        have hzl := extentB_le (c :: r)
        obtain ⟨z, hz'⟩ : ∃ z, extentB (c :: r) = z := ⟨_, rfl⟩
        rw [hz'] at H hzl ⊢
        rw [← List.cons_append, List.take_append_of_le_length hzl, List.drop_append_of_le_length hzl]
        cases hs : stepB n ((c :: r).take z) with
        | no e => rfl
        | yes kk t i =>
          have h0 := yes_pos hs
          rw [hs] at H
          dsimp only at H ⊢
          rw [List.length_cons] at hzl
          have hdl : ((c :: r).drop z).length = r.length + 1 - z := by rw [List.length_drop, List.length_cons]
          rw [lexB_app x hx f (n + 1) (a + runB blank l + z) ((c :: r).drop z) (by omega) (fun p e hb => by
            have h1 := H p e (by rw [hb]; rfl)
            rcases h1 with h1 | h1
            · exact .inl h1
            · right
              rintro ⟨h2, h3⟩
              apply h1
              refine ⟨h2, ?_⟩
              have hp : a + runB blank l + z ≤ p := lexB_ge _ _ _ _ _ _ (Nat.lt_succ_self _) hb
              rw [← hdr, List.drop_drop, List.getElem?_drop] at h3
              rw [← h3]
              congr 1
              omega)]
          cases lexB (n + 1) (a + runB blank l + z) ((c :: r).drop z) with
          | bad p e => rfl
          | ok m =>
            show (Res.behind m _).cons _ = Res.behind (_ :: m) _
            rw [behind_cons, hdl, List.length_cons, show n + 1 + m.length = n + (m.length + 1) by omega, show a + runB blank l + z + (r.length + 1 - z) = a + l.length by omega]
end Go.Proofs.YtfdjeaieddcgdaaDoor
