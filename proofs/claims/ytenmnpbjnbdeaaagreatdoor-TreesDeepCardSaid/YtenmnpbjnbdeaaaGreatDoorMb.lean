/-
  WHAT IS PROVED: plain mathematics of words: what a text's words are, byte by byte. plain mathematics of words: what stands behind a blank says nothing of the words ahead of it. plain mathematics of words: words that are written with one blank between are read again. plain mathematics of words: with words ahead of them; where they go wrong.
-/
import Derived.Lib.ParseIntB
import Derived.Lib.ReplaceLaws
import Derived.Lib.Case
namespace Go.Proofs.YtenmnpbjnbdeaaaGreatDoor
section
/-! ### Bytes -/
def blank (c : UInt8) : Bool := c.toNat == 32 || c.toNat == 9 || c.toNat == 10 || c.toNat == 13
def small (c : UInt8) : Bool := decide (97 ≤ c.toNat) && decide (c.toNat ≤ 122)
def letter (c : UInt8) : Bool := small c || (decide (65 ≤ c.toNat) && decide (c.toNat ≤ 90))
def digitB (c : UInt8) : Bool := decide (48 ≤ c.toNat) && decide (c.toNat ≤ 57)
def follow (c : UInt8) : Bool := letter c || (digitB c || c.toNat == 95)

/-! ### Pieces -/
def runB (p : UInt8 → Bool) (l : List UInt8) : Nat := (l.takeWhile p).length
/-- of what stands behind a sign that begins a text: as far as it ends -/
def closeB : List UInt8 → Option Nat
  | [] => none
  | [c] => if c = 39 then some 1 else none
  | c :: d :: r => if c = 39 then (if d = 39 then (closeB r).map (· + 2) else some 1) else (closeB (d :: r)).map (· + 1)
def quotedB (l : List UInt8) : Nat := match closeB l.tail with | none => 0 | some k => k + 1
def signsB : List (List UInt8) := [[60, 61], [60, 62], [62, 61], [124, 124], [40], [41], [44], [46], [42], [43], [45], [47], [37], [61], [60], [62]]
def signB (l : List UInt8) : Nat := ((signsB.find? fun x => x.isPrefixOf l).map List.length).getD 0
def extentB : List UInt8 → Nat
  | [] => 0
  | c :: r => if letter c then runB follow (c :: r) else if digitB c then runB digitB (c :: r) else if c = 39 then quotedB (c :: r) else signB (c :: r)

structure WordM where
  kind : Nat
  s : List UInt8
  i : Nat
  pos : Nat

/-- each two signs are one -/
def undbl : List UInt8 → List UInt8
  | [] => []
  | [c] => [c]
  | c :: d :: r => if c = 39 ∧ d = 39 then 39 :: undbl r else c :: undbl (d :: r)
def numB (l : List UInt8) : Option Nat := match Lib.parseIntB 64 l with | .ok v => some v.toNat | _ => none
def insideB (l : List UInt8) : List UInt8 := (l.drop 1).take (l.length - 2)

inductive Got where
  | no (e : Nat)
  | yes (kind : Nat) (s : List UInt8) (i : Nat)

def wordB : List UInt8 → Got
  | [] => .no 4
  | c :: r => if letter c then (if 16 < (c :: r).length then .no 4 else .yes 1 (Lib.toLowerA (c :: r)) 0)
    else if digitB c then (match numB (c :: r) with | none => .no 12 | some n => .yes 2 [] n)
    else if c = 39 then (if 512 < (undbl (insideB (c :: r))).length then .no 3 else .yes 3 (undbl (insideB (c :: r))) 0)
    else .yes 4 (c :: r) 0

/-- where pieces stand; one that is no word is the last one -/
def piecesF (s : List UInt8) : Nat → Nat → List Nat
  | 0, _ => []
  | k + 1, a => if a < s.length then (if extentB (s.drop a) = 0 then [a] else a :: piecesF s k (a + extentB (s.drop a) + runB blank (s.drop (a + extentB (s.drop a))))) else []
def piecesB (s : List UInt8) : List Nat := piecesF s (s.length + 1) (runB blank s)
def pieceB (s : List UInt8) (a : Nat) : List UInt8 := (s.drop a).take (extentB (s.drop a))

inductive Res where
  | ok (l : List WordM)
  | bad (pos : Nat) (e : Nat)

def Res.cons (w : WordM) : Res → Res
  | .ok l => .ok (w :: l)
  | .bad a e => .bad a e

def stepB (n : Nat) (p : List UInt8) : Got := if n = 1024 then .no 3 else wordB p

def foldB (s : List UInt8) : Nat → List Nat → Res
  | _, [] => .ok []
  | n, x :: r => match stepB n (pieceB s x) with
    | .no e => .bad x e
    | .yes k t i => (foldB s (n + 1) r).cons ⟨k, t, i, x⟩

/-- the words of what is left of a text: n are ahead, a bytes are -/
def lexF : Nat → Nat → Nat → List UInt8 → Res
  | 0, _, _, _ => .ok []
  | f + 1, n, a, l =>
    match l.dropWhile blank with
    | [] => .ok []
    | c :: r => match stepB n ((c :: r).take (extentB (c :: r))) with
      | .no e => .bad (a + runB blank l) e
      | .yes k t i => (lexF f (n + 1) (a + runB blank l + extentB (c :: r)) ((c :: r).drop (extentB (c :: r)))).cons ⟨k, t, i, a + runB blank l⟩
def lexB (n a : Nat) (l : List UInt8) : Res := lexF (l.length + 1) n a l

def ofB (s : List UInt8) : Res := if 4096 < s.length then .bad 0 3 else foldB s 0 (piecesB s)

/-! ### Sizes -/
theorem runB_le (p : UInt8 → Bool) (l : List UInt8) : runB p l ≤ l.length := by
  unfold runB; exact (List.takeWhile_prefix p).length_le
theorem runB_cons (p : UInt8 → Bool) (c : UInt8) (l : List UInt8) : runB p (c :: l) = if p c then runB p l + 1 else 0 := by
  unfold runB; cases h : p c <;> simp [h]
theorem drop_run (p : UInt8 → Bool) (l : List UInt8) : l.drop (runB p l) = l.dropWhile p := by
  induction l with
  | nil => rfl
  | cons c r ih => rw [runB_cons]; cases h : p c <;> simp [h, ih]
theorem closeB_le : ∀ (l : List UInt8) (k : Nat), closeB l = some k → 1 ≤ k ∧ k ≤ l.length
  | [], k, h => by simp [closeB] at h
  | [c], k, h => by
    simp only [closeB] at h
    split at h
    · cases h; simp
    · cases h
  | c :: d :: r, k, h => by
    simp only [closeB] at h
    split at h
    · split at h
      · cases e : closeB r with
        | none => rw [e] at h; cases h
        | some m => rw [e] at h; have := closeB_le r m e; simp at h ⊢; omega
      · simp at h ⊢; omega
    · cases e : closeB (d :: r) with
      | none => rw [e] at h; cases h
      | some m => rw [e] at h; have := closeB_le (d :: r) m e; simp at h this ⊢; omega
theorem signB_le (l : List UInt8) : signB l ≤ l.length := by
  unfold signB
  cases h : signsB.find? fun x => x.isPrefixOf l with
  | none => simp
  | some x => have := List.find?_some h; simp only [Option.map_some, Option.getD_some]; exact (List.isPrefixOf_iff_prefix.1 this).length_le
theorem extentB_le (l : List UInt8) : extentB l ≤ l.length := by
  cases l with
  | nil => exact Nat.le_refl _
  | cons c r =>
    simp only [extentB]
    split
    · exact runB_le _ _
    · split
      · exact runB_le _ _
      · split
        · unfold quotedB
          cases h : closeB (c :: r).tail with
          | none => simp
          | some k => have := closeB_le _ _ h; simp at this ⊢; omega
        · exact signB_le _

theorem wordB_nil {l : List UInt8} (h : l = []) : wordB l = .no 4 := by subst h; rfl

/-- a fold of pieces is what is left of the text, read -/
theorem fold_lex (s : List UInt8) : ∀ (k n a : Nat), foldB s n (piecesF s k (a + runB blank (s.drop a))) = lexF k n a (s.drop a)
  | 0, n, a => by simp [piecesF, foldB, lexF]
  | k + 1, n, a => by
    have hd : s.drop (a + runB blank (s.drop a)) = (s.drop a).dropWhile blank := by rw [← drop_run, List.drop_drop]
    unfold piecesF lexF
    cases hr : (s.drop a).dropWhile blank with
    | nil =>
      have : s.length ≤ a + runB blank (s.drop a) := by rw [hr] at hd; exact List.drop_eq_nil_iff.1 hd
      rw [if_neg (by omega)]; rfl
    | cons c r =>
      have hlt : a + runB blank (s.drop a) < s.length := by
        apply Nat.lt_of_not_le
        intro h
        rw [List.drop_eq_nil_iff.2 h, hr] at hd; cases hd
      rw [if_pos hlt, hd, hr]
      obtain ⟨z, hz⟩ : ∃ z, extentB (c :: r) = z := ⟨_, rfl⟩
      obtain ⟨b, hb⟩ : ∃ b, a + runB blank (s.drop a) = b := ⟨_, rfl⟩
      rw [hb] at hd
      rw [hr] at hd
      dsimp only
      rw [hz, hb]
      by_cases h0 : z = 0
      · subst h0
        rw [if_pos rfl]
        simp only [foldB]
        unfold pieceB
        rw [hd, hz, List.take_zero]
        unfold stepB
        rw [wordB_nil rfl]
        by_cases hn : n = 1024
        · rw [if_pos hn]
        · rw [if_neg hn]
      · rw [if_neg h0]
        simp only [foldB]
        unfold pieceB
        rw [hd, hz]
        cases stepB n ((c :: r).take z) with
        | no e => rfl
        | yes kk t i =>
          have ih := fold_lex s k (n + 1) (b + z)
          rw [show s.drop (b + z) = (c :: r).drop z by rw [← List.drop_drop, hd]] at ih
          simp only
          rw [show s.drop (b + z) = (c :: r).drop z by rw [← List.drop_drop, hd], ih]

theorem lexF_more : ∀ (f g n a : Nat) (l : List UInt8), l.length < f → l.length < g → lexF f n a l = lexF g n a l
  | 0, _, _, _, _, h, _ => by omega
  | _, 0, _, _, _, _, h => by omega
  | f + 1, g + 1, n, a, l, hf, hg => by
    unfold lexF
    cases hr : l.dropWhile blank with
    | nil => rfl
    | cons c r =>
      have hle : (c :: r).length ≤ l.length := by rw [← hr]; exact (List.dropWhile_suffix blank).length_le
      dsimp only
      obtain ⟨z, hz⟩ : ∃ z, extentB (c :: r) = z := ⟨_, rfl⟩
      rw [hz]
      rw [List.length_cons] at hle
      cases hs : stepB n ((c :: r).take z) with
      | no e => rfl
      | yes k t i =>
        have h0 : 0 < z := by
          apply Nat.pos_of_ne_zero
          intro e
          subst e
          rw [List.take_zero] at hs
          unfold stepB at hs
          rw [wordB_nil rfl] at hs
          split at hs <;> cases hs
        simp only
        rw [lexF_more f g _ _ _ (by rw [List.length_drop, List.length_cons]; omega) (by rw [List.length_drop, List.length_cons]; omega)]

theorem ofB_lex (s : List UInt8) : ofB s = if 4096 < s.length then .bad 0 3 else lexB 0 0 s := by
  unfold ofB piecesB lexB
  have := fold_lex s (s.length + 1) 0 0
  rw [List.drop_zero, Nat.zero_add] at this
  rw [this]

/-- one word, and the others -/
theorem lexB_nil (n a : Nat) (l : List UInt8) (h : l.dropWhile blank = []) : lexB n a l = .ok [] := by
  unfold lexB lexF; rw [h]
theorem lexB_cons (n a : Nat) (l : List UInt8) (c : UInt8) (r : List UInt8) (h : l.dropWhile blank = c :: r) :
    lexB n a l = match stepB n ((c :: r).take (extentB (c :: r))) with
      | .no e => .bad (a + runB blank l) e
      | .yes k t i => (lexB (n + 1) (a + runB blank l + extentB (c :: r)) ((c :: r).drop (extentB (c :: r)))).cons ⟨k, t, i, a + runB blank l⟩ := by
  have hle : (c :: r).length ≤ l.length := by rw [← h]; exact (List.dropWhile_suffix blank).length_le
  unfold lexB
  conv => lhs; unfold lexF
  rw [h]
  dsimp only
  obtain ⟨z, hz⟩ : ∃ z, extentB (c :: r) = z := ⟨_, rfl⟩
  rw [hz]
  rw [List.length_cons] at hle
  cases hs : stepB n ((c :: r).take z) with
  | no e => rfl
  | yes k t i =>
    have h0 : 0 < z := by
      apply Nat.pos_of_ne_zero
      intro e
      subst e
      rw [List.take_zero] at hs
      unfold stepB at hs
      rw [wordB_nil rfl] at hs
      split at hs <;> cases hs
    simp only
    rw [lexF_more l.length (((c :: r).drop z).length + 1) _ _ _ (by rw [List.length_drop, List.length_cons]; omega) (by omega)]
end
section
def Res.behind (l : List WordM) : Res → Res
  | .ok m => .ok (l ++ m)
  | .bad a e => .bad a e
theorem run_drop_len (p : UInt8 → Bool) (l : List UInt8) : runB p l + (l.dropWhile p).length = l.length := by
  rw [← drop_run, List.length_drop]; have := runB_le p l; omega

theorem yes_pos {n : Nat} {l : List UInt8} {z kk i : Nat} {t : List UInt8} (hs : stepB n (l.take z) = .yes kk t i) : 0 < z := by
  apply Nat.pos_of_ne_zero
  intro e
  subst e
  rw [List.take_zero] at hs
  unfold stepB at hs
  rw [wordB_nil rfl] at hs
  split at hs <;> cases hs

end
section
theorem forall_u8 (P : UInt8 → Prop) (h : ∀ n, n < 256 → P (UInt8.ofNat n)) (c : UInt8) : P c := by
  have := h c.toNat c.toNat_lt
  rwa [UInt8.ofNat_toNat] at this

/-- a byte of a name in small letters -/
def low (c : UInt8) : Bool := small c || (digitB c || c.toNat == 95)
theorem low_of (c : UInt8) (h : follow c = true) : low (Lib.lowerB c) = true := by
  revert h
  exact forall_u8 (fun c => follow c = true → low (Lib.lowerB c) = true) (by decide +kernel) c
theorem small_of (c : UInt8) (h : letter c = true) : small (Lib.lowerB c) = true := by
  revert h
  exact forall_u8 (fun c => letter c = true → small (Lib.lowerB c) = true) (by decide +kernel) c
theorem digit_not (c : UInt8) (h : digitB c = true) : blank c = false ∧ letter c = false := by
  revert h
  exact forall_u8 (fun c => digitB c = true → blank c = false ∧ letter c = false) (by decide +kernel) c

/-! ### Numbers -/
def valB (a : Nat) (l : List UInt8) : Nat := l.foldl (fun a c => a * 10 + (c.toNat - 48)) a
theorem valB_ge : ∀ (l : List UInt8) (a : Nat), a ≤ valB a l
  | [], a => Nat.le_refl _
  | c :: l, a => by
    have := valB_ge l (a * 10 + (c.toNat - 48))
    show a ≤ valB (a * 10 + (c.toNat - 48)) l
    omega
theorem uint_val (M : Nat) (hM : M = 18446744073709551615) : ∀ (l : List UInt8) (a : Nat), (∀ c ∈ l, digitB c = true) → a ≤ M → Lib.parseUintM M a l = if valB a l ≤ M then .ok (valB a l) else .range
  | [], a, _, ha => by simp [Lib.parseUintM, valB, ha]
  | c :: l, a, h, ha => by
    have hc := h c List.mem_cons_self
    unfold digitB at hc
    simp only [Bool.and_eq_true, decide_eq_true_eq] at hc
    have hge := valB_ge l (a * 10 + (c.toNat - 48))
    have hv : valB a (c :: l) = valB (a * 10 + (c.toNat - 48)) l := rfl
    rw [hv]
    unfold Lib.parseUintM
    rw [if_pos hc]
    by_cases h1 : 1844674407370955162 ≤ a
    · rw [if_pos h1, if_neg (by omega)]
    · rw [if_neg h1]
      by_cases h2 : M < a * 10 + (c.toNat - 48)
      · rw [if_pos h2, if_neg (by omega)]
      · rw [if_neg h2]
        exact uint_val M hM l _ (fun x hx => h x (List.mem_cons_of_mem _ hx)) (by omega)
theorem numB_val (l : List UInt8) (hl : l ≠ []) (h : ∀ c ∈ l, digitB c = true) : numB l = if valB 0 l < 9223372036854775808 then some (valB 0 l) else none := by
  cases l with
  | nil => exact absurd rfl hl
  | cons c r =>
    have hc := h c List.mem_cons_self
    unfold digitB at hc
    simp only [Bool.and_eq_true, decide_eq_true_eq] at hc
    unfold numB Lib.parseIntB
    have e1 : ¬ (c.toNat = 43 ∨ c.toNat = 45) := by omega
    have e2 : ¬ c.toNat = 45 := by omega
    simp only [if_neg e1]
    unfold Lib.parseUintB
    rw [if_neg (by simp), show (2 : Nat) ^ 64 - 1 = 18446744073709551615 from rfl, uint_val _ rfl (c :: r) 0 h (by omega)]
    obtain ⟨v, hv⟩ : ∃ v, valB 0 (c :: r) = v := ⟨_, rfl⟩
    rw [hv]
    by_cases h1 : v ≤ 18446744073709551615
    · rw [if_pos h1]
      dsimp only
      by_cases h2 : v < 9223372036854775808
      · rw [if_neg (by simp [e2]; omega), if_neg (by simp [e2]), if_neg e2, if_pos h2]
        simp
      · rw [if_pos ⟨e2, by omega⟩, if_neg h2]
    · rw [if_neg h1, if_neg (by omega)]

/-! ### Texts -/
/-! ### Words that may be -/
structure FineW (w : WordM) : Prop where
  name : w.kind = 1 → (∃ c r, w.s = c :: r ∧ small c = true) ∧ (∀ c ∈ w.s, low c = true) ∧ w.s.length ≤ 16 ∧ w.i = 0
  num : w.kind = 2 → w.s = [] ∧ w.i < 9223372036854775808
  text : w.kind = 3 → w.s.length ≤ 512 ∧ w.i = 0
  sign : w.kind = 4 → w.s ∈ signsB ∧ w.i = 0
  kinds : w.kind = 1 ∨ w.kind = 2 ∨ w.kind = 3 ∨ w.kind = 4

theorem run_all (p : UInt8 → Bool) (l : List UInt8) : ∀ c ∈ l.take (runB p l), p c = true := by
  induction l with
  | nil => intro c hc; simp at hc
  | cons d r ih =>
    intro c hc
    rw [runB_cons] at hc
    cases hp : p d with
    | false => rw [hp] at hc; simp at hc
    | true =>
      rw [hp, if_pos rfl, List.take_succ_cons] at hc
      rcases List.mem_cons.1 hc with rfl | hc
      · exact hp
      · exact ih c hc
theorem fine_of (l : List UInt8) (n k i a : Nat) (t : List UInt8) (h : stepB n (l.take (extentB l)) = .yes k t i) : FineW ⟨k, t, i, a⟩ := by
  unfold stepB at h
  split at h
  · cases h
  cases l with
  | nil => cases h
  | cons c r =>
    obtain ⟨z, hz⟩ : ∃ z, extentB (c :: r) = z := ⟨_, rfl⟩
    rw [hz] at h
    cases z with
    | zero => rw [List.take_zero, wordB_nil rfl] at h; cases h
    | succ z =>
      rw [List.take_succ_cons] at h
      simp only [wordB] at h
      simp only [extentB] at hz
      by_cases hl : letter c = true
      · rw [if_pos hl] at h
        split at h
        · cases h
        rename_i hlen
        cases h
        rw [if_pos hl] at hz
        have hall := run_all follow (c :: r)
        rw [hz, List.take_succ_cons] at hall
        refine ⟨fun _ => ⟨⟨Lib.lowerB c, (r.take z).map Lib.lowerB, rfl, small_of c hl⟩, fun x hx => ?_, ?_, rfl⟩, fun h => by simp at h, fun h => by simp at h, fun h => by simp at h, .inl rfl⟩
        · obtain ⟨y, hy, rfl⟩ := List.mem_map.1 hx
          exact low_of y (hall y hy)
        · show ((c :: r.take z).map Lib.lowerB).length ≤ 16
          rw [List.length_map]; omega
      · rw [if_neg hl] at h hz
        by_cases hd : digitB c = true
        · rw [if_pos hd] at h hz
          have hall := run_all digitB (c :: r)
          rw [hz, List.take_succ_cons] at hall
          rw [numB_val _ (by simp) hall] at h
          split at h
          · cases h
          rename_i v hv
          cases h
          split at hv
          · cases hv
            refine ⟨fun h => by simp at h, fun _ => ⟨rfl, by assumption⟩, fun h => by simp at h, fun h => by simp at h, .inr (.inl rfl)⟩
          · cases hv
        · rw [if_neg hd] at h hz
          by_cases hq : c = 39
          · rw [if_pos hq] at h
            split at h
            · cases h
            rename_i hlen
            cases h
            exact ⟨fun h => by simp at h, fun h => by simp at h, fun _ => ⟨Nat.le_of_not_lt hlen, rfl⟩, fun h => by simp at h, .inr (.inr (.inl rfl))⟩
          · rw [if_neg hq] at h hz
            cases h
            refine ⟨fun h => by simp at h, fun h => by simp at h, fun h => by simp at h, fun _ => ⟨?_, rfl⟩, .inr (.inr (.inr rfl))⟩
            unfold signB at hz
            cases hf : signsB.find? fun x => x.isPrefixOf (c :: r) with
            | none => rw [hf] at hz; cases hz
            | some x =>
              rw [hf] at hz
              have h1 := List.find?_some hf
              have h2 := List.mem_of_find?_eq_some hf
              obtain ⟨y, hy⟩ := List.isPrefixOf_iff_prefix.1 h1
              have h3 : x.length = z + 1 := hz
              have : c :: r.take z = x := by
                rw [← List.take_succ_cons, ← hy, List.take_append_of_le_length (by omega), ← h3, List.take_length]
              rw [this]
              exact h2

theorem fine_all (m : List WordM) : ∀ (f n a : Nat) (l : List UInt8), l.length < f → n ≤ 1024 → lexB n a l = .ok m → (∀ w ∈ m, FineW w) ∧ n + m.length ≤ 1024
  := by
  induction m with
  | nil => intro f n a l _ hn _; exact ⟨fun w hw => (by cases hw), by simpa using hn⟩
  | cons w m ih =>
    intro f n a l hf hnn h
    cases hr : l.dropWhile blank with
    | nil => rw [lexB_nil _ _ _ hr] at h; cases h
    | cons c r =>
      have hle := run_drop_len blank l
      rw [hr, List.length_cons] at hle
      rw [lexB_cons _ _ _ _ _ hr] at h
      obtain ⟨z, hz⟩ : ∃ z, extentB (c :: r) = z := ⟨_, rfl⟩
      rw [hz] at h
      cases hs : stepB n ((c :: r).take z) with
      | no e => rw [hs] at h; cases h
      | yes kk t i =>
        have h0 := yes_pos hs
        have hn : n ≠ 1024 := by intro e; subst e; unfold stepB at hs; rw [if_pos rfl] at hs; cases hs
        rw [hs] at h
        dsimp only at h
        cases hl : lexB (n + 1) (a + runB blank l + z) ((c :: r).drop z) with
        | bad p e => rw [hl] at h; cases h
        | ok m' =>
          rw [hl] at h
          cases h
          obtain ⟨h1, h2⟩ := ih f (n + 1) _ _ (by rw [List.length_drop, List.length_cons]; omega) (by omega) hl
          refine ⟨fun x hx => ?_, by rw [List.length_cons]; omega⟩
          rcases List.mem_cons.1 hx with rfl | hx
          · rw [← hz] at hs
            exact fine_of (c :: r) n kk i _ t hs
          · exact h1 x hx

/-! ### Words as a text -/
end
section
theorem step_err {n : Nat} {q : List UInt8} {e : Nat} (h : stepB n q = .no e) : e ≠ 0 := by
  unfold stepB at h
  split at h
  · cases h; decide
  · cases q with
    | nil => cases h; decide
    | cons c r =>
      simp only [wordB] at h
      split at h
      · split at h
        · cases h; decide
        · cases h
      · split at h
        · split at h
          · cases h; decide
          · cases h
        · split at h
          · split at h
            · cases h; decide
            · cases h
          · cases h
theorem lexB_err' (p e : Nat) : ∀ (f n a : Nat) (l : List UInt8), l.length < f → lexB n a l = .bad p e → e ≠ 0
  | 0, _, _, _, h, _ => by omega
  | f + 1, n, a, l, h, hb => by
    cases hr : l.dropWhile blank with
    | nil => rw [lexB_nil _ _ _ hr] at hb; cases hb
    | cons c r =>
      have hle := run_drop_len blank l
      rw [hr, List.length_cons] at hle
      rw [lexB_cons _ _ _ _ _ hr] at hb
      obtain ⟨z, hz⟩ : ∃ z, extentB (c :: r) = z := ⟨_, rfl⟩
      rw [hz] at hb
      cases hs : stepB n ((c :: r).take z) with
      | no e' => rw [hs] at hb; cases hb; exact step_err hs
      | yes kk t i =>
        have h0 := yes_pos hs
        rw [hs] at hb
        dsimp only at hb
        cases hl : lexB (n + 1) (a + runB blank l + z) ((c :: r).drop z) with
        | ok m => rw [hl] at hb; cases hb
        | bad p' e' =>
          rw [hl] at hb
          cases hb
          exact lexB_err' p e f (n + 1) _ _ (by rw [List.length_drop, List.length_cons]; omega) hl
theorem lexB_err (p e n a : Nat) (l : List UInt8) (h : lexB n a l = .bad p e) : e ≠ 0 := lexB_err' p e _ n a l (Nat.lt_succ_self _) h
theorem ofB_len {s : List UInt8} {m : List WordM} (h : ofB s = .ok m) : m.length ≤ 1024 := by
  rw [ofB_lex] at h
  split at h
  · cases h
  · have := (fine_all m (s.length + 1) 0 0 s (by omega) (by omega) h).2
    omega
theorem ofB_fine {s : List UInt8} {m : List WordM} (h : ofB s = .ok m) : ∀ w ∈ m, FineW w := by
  rw [ofB_lex] at h
  split at h
  · cases h
  · exact (fine_all m (s.length + 1) 0 0 s (by omega) (by omega) h).1

end
end Go.Proofs.YtenmnpbjnbdeaaaGreatDoor
