/-
  WHAT IS PROVED: plain mathematics of words: what a text's words are, byte by byte.
-/
import Derived.Lib.ParseIntB
import Derived.Lib.ReplaceLaws
import Derived.Lib.Case
namespace Go.Proofs.YtfdjeaieddcgdaaDoor

/-! ### Bytes -/
def blank (c : UInt8) : Bool := c.toNat == 32 || c.toNat == 9 || c.toNat == 10 || c.toNat == 13
def small (c : UInt8) : Bool := decide (97 ≤ c.toNat) && decide (c.toNat ≤ 122)
def letter (c : UInt8) : Bool := small c || (decide (65 ≤ c.toNat) && decide (c.toNat ≤ 90))
def digitB (c : UInt8) : Bool := decide (48 ≤ c.toNat) && decide (c.toNat ≤ 57)
def follow (c : UInt8) : Bool := letter c || (digitB c || c.toNat == 95)

theorem u8_eq {c d : UInt8} (h : c.toNat = d.toNat) : c = d := UInt8.toNat_inj.1 h
theorem u8_eq39 {c : UInt8} (h : c.toNat = 39) : c = 39 := u8_eq h

/-! ### Pieces -/
def runB (p : UInt8 → Bool) (l : List UInt8) : Nat := (l.takeWhile p).length
/-- of what stands behind a sign that begins a text: as far as it ends -/
def closeB : List UInt8 → Option Nat
  | [] => none
  | [c] => if c = 39 then some 1 else none
  | c :: d :: r => if c = 39 then (if d = 39 then (closeB r).map (· + 2) else some 1) else (closeB (d :: r)).map (· + 1)
def quotedB (l : List UInt8) : Nat := match closeB l.tail with | none => 0 | some k => k + 1
def signsB : List (List UInt8) := [[60, 61], [60, 62], [62, 61], [124, 124], [40], [41], [44], [46], [42], [43], [45], [47], [37], [61], [60], [62]]
def signB (l : List UInt8) : Nat := ((signsB.find? fun x => x.isPrefixOf l).map List.length).getD 0
def extentB : List UInt8 → Nat
  | [] => 0
  | c :: r => if letter c then runB follow (c :: r) else if digitB c then runB digitB (c :: r) else if c = 39 then quotedB (c :: r) else signB (c :: r)

structure WordM where
  kind : Nat
  s : List UInt8
  i : Nat
  pos : Nat

/-- each two signs are one -/
def undbl : List UInt8 → List UInt8
  | [] => []
  | [c] => [c]
  | c :: d :: r => if c = 39 ∧ d = 39 then 39 :: undbl r else c :: undbl (d :: r)
def numB (l : List UInt8) : Option Nat := match Lib.parseIntB 64 l with | .ok v => some v.toNat | _ => none
def insideB (l : List UInt8) : List UInt8 := (l.drop 1).take (l.length - 2)

inductive Got where
  | no (e : Nat)
  | yes (kind : Nat) (s : List UInt8) (i : Nat)

def wordB : List UInt8 → Got
  | [] => .no 4
  | c :: r => if letter c then (if 16 < (c :: r).length then .no 4 else .yes 1 (Lib.toLowerA (c :: r)) 0)
    else if digitB c then (match numB (c :: r) with | none => .no 12 | some n => .yes 2 [] n)
    else if c = 39 then (if 512 < (undbl (insideB (c :: r))).length then .no 3 else .yes 3 (undbl (insideB (c :: r))) 0)
    else .yes 4 (c :: r) 0

/-- where pieces stand; one that is no word is the last one -/
def piecesF (s : List UInt8) : Nat → Nat → List Nat
  | 0, _ => []
  | k + 1, a => if a < s.length then (if extentB (s.drop a) = 0 then [a] else a :: piecesF s k (a + extentB (s.drop a) + runB blank (s.drop (a + extentB (s.drop a))))) else []
def piecesB (s : List UInt8) : List Nat := piecesF s (s.length + 1) (runB blank s)
def pieceB (s : List UInt8) (a : Nat) : List UInt8 := (s.drop a).take (extentB (s.drop a))

inductive Res where
  | ok (l : List WordM)
  | bad (pos : Nat) (e : Nat)

def Res.cons (w : WordM) : Res → Res
  | .ok l => .ok (w :: l)
  | .bad a e => .bad a e

def stepB (n : Nat) (p : List UInt8) : Got := if n = 1024 then .no 3 else wordB p

def foldB (s : List UInt8) : Nat → List Nat → Res
  | _, [] => .ok []
  | n, x :: r => match stepB n (pieceB s x) with
    | .no e => .bad x e
    | .yes k t i => (foldB s (n + 1) r).cons ⟨k, t, i, x⟩

/-- the words of what is left of a text: n are ahead, a bytes are -/
def lexF : Nat → Nat → Nat → List UInt8 → Res
  | 0, _, _, _ => .ok []
  | f + 1, n, a, l =>
    match l.dropWhile blank with
    | [] => .ok []
    | c :: r => match stepB n ((c :: r).take (extentB (c :: r))) with
      | .no e => .bad (a + runB blank l) e
      | .yes k t i => (lexF f (n + 1) (a + runB blank l + extentB (c :: r)) ((c :: r).drop (extentB (c :: r)))).cons ⟨k, t, i, a + runB blank l⟩
def lexB (n a : Nat) (l : List UInt8) : Res := lexF (l.length + 1) n a l

def ofB (s : List UInt8) : Res := if 4096 < s.length then .bad 0 3 else foldB s 0 (piecesB s)

/-! ### Sizes -/
theorem runB_le (p : UInt8 → Bool) (l : List UInt8) : runB p l ≤ l.length := by
  unfold runB; exact (List.takeWhile_prefix p).length_le
theorem runB_nil (p : UInt8 → Bool) : runB p [] = 0 := rfl
theorem runB_cons (p : UInt8 → Bool) (c : UInt8) (l : List UInt8) : runB p (c :: l) = if p c then runB p l + 1 else 0 := by
  unfold runB; cases h : p c <;> simp [h]
theorem drop_run (p : UInt8 → Bool) (l : List UInt8) : l.drop (runB p l) = l.dropWhile p := by
  induction l with
  | nil => rfl
  | cons c r ih => rw [runB_cons]; cases h : p c <;> simp [h, ih]
theorem closeB_le : ∀ (l : List UInt8) (k : Nat), closeB l = some k → 1 ≤ k ∧ k ≤ l.length
  | [], k, h => by simp [closeB] at h
  | [c], k, h => by
    simp only [closeB] at h
    split at h
    · cases h; simp
    · cases h
  | c :: d :: r, k, h => by
    simp only [closeB] at h
    split at h
    · split at h
      · cases e : closeB r with
        | none => rw [e] at h; cases h
        | some m => rw [e] at h; have := closeB_le r m e; simp at h ⊢; omega
      · simp at h ⊢; omega
    · cases e : closeB (d :: r) with
      | none => rw [e] at h; cases h
      | some m => rw [e] at h; have := closeB_le (d :: r) m e; simp at h this ⊢; omega
theorem signB_le (l : List UInt8) : signB l ≤ l.length := by
  unfold signB
  cases h : signsB.find? fun x => x.isPrefixOf l with
  | none => simp
  | some x => have := List.find?_some h; simp only [Option.map_some, Option.getD_some]; exact (List.isPrefixOf_iff_prefix.1 this).length_le
theorem extentB_le (l : List UInt8) : extentB l ≤ l.length := by
  cases l with
  | nil => exact Nat.le_refl _
  | cons c r =>
    simp only [extentB]
    split
    · exact runB_le _ _
    · split
      · exact runB_le _ _
      · split
        · unfold quotedB
          cases h : closeB (c :: r).tail with
          | none => simp
          | some k => have := closeB_le _ _ h; simp at this ⊢; omega
        · exact signB_le _

theorem wordB_nil {l : List UInt8} (h : l = []) : wordB l = .no 4 := by subst h; rfl

/-- a fold of pieces is what is left of the text, read -/
theorem fold_lex (s : List UInt8) : ∀ (k n a : Nat), foldB s n (piecesF s k (a + runB blank (s.drop a))) = lexF k n a (s.drop a)
  | 0, n, a => by simp [piecesF, foldB, lexF]
  | k + 1, n, a => by
    have hd : s.drop (a + runB blank (s.drop a)) = (s.drop a).dropWhile blank := by rw [← drop_run, List.drop_drop]
    unfold piecesF lexF
    cases hr : (s.drop a).dropWhile blank with
    | nil =>
      have : s.length ≤ a + runB blank (s.drop a) := by rw [hr] at hd; exact List.drop_eq_nil_iff.1 hd
      rw [if_neg (by omega)]; rfl
    | cons c r =>
      have hlt : a + runB blank (s.drop a) < s.length := by
        apply Nat.lt_of_not_le
        intro h
        rw [List.drop_eq_nil_iff.2 h, hr] at hd; cases hd
      rw [if_pos hlt, hd, hr]
      obtain ⟨z, hz⟩ : ∃ z, extentB (c :: r) = z := ⟨_, rfl⟩
      obtain ⟨b, hb⟩ : ∃ b, a + runB blank (s.drop a) = b := ⟨_, rfl⟩
      rw [hb] at hd
      rw [hr] at hd
      dsimp only
      rw [hz, hb]
      by_cases h0 : z = 0
      · subst h0
        rw [if_pos rfl]
        simp only [foldB]
        unfold pieceB
        rw [hd, hz, List.take_zero]
        unfold stepB
        rw [wordB_nil rfl]
        by_cases hn : n = 1024
        · rw [if_pos hn]
        · rw [if_neg hn]
      · rw [if_neg h0]
        simp only [foldB]
        unfold pieceB
        rw [hd, hz]
        cases stepB n ((c :: r).take z) with
        | no e => rfl
        | yes kk t i =>
          have ih := fold_lex s k (n + 1) (b + z)
          rw [show s.drop (b + z) = (c :: r).drop z by rw [← List.drop_drop, hd]] at ih
          simp only
          rw [show s.drop (b + z) = (c :: r).drop z by rw [← List.drop_drop, hd], ih]

theorem lexF_more : ∀ (f g n a : Nat) (l : List UInt8), l.length < f → l.length < g → lexF f n a l = lexF g n a l
  | 0, _, _, _, _, h, _ => by omega
  | _, 0, _, _, _, _, h => by omega
  | f + 1, g + 1, n, a, l, hf, hg => by
    unfold lexF
    cases hr : l.dropWhile blank with
    | nil => rfl
    | cons c r =>
      have hle : (c :: r).length ≤ l.length := by rw [← hr]; exact (List.dropWhile_suffix blank).length_le
      dsimp only
      obtain ⟨z, hz⟩ : ∃ z, extentB (c :: r) = z := ⟨_, rfl⟩
      rw [hz]
      rw [List.length_cons] at hle
      cases hs : stepB n ((c :: r).take z) with
      | no e => rfl
      | yes k t i =>
        have h0 : 0 < z := by
          apply Nat.pos_of_ne_zero
          intro e
          subst e
          rw [List.take_zero] at hs
          unfold stepB at hs
          rw [wordB_nil rfl] at hs
          split at hs <;> cases hs
        simp only
        rw [lexF_more f g _ _ _ (by rw [List.length_drop, List.length_cons]; omega) (by rw [List.length_drop, List.length_cons]; omega)]

theorem ofB_lex (s : List UInt8) : ofB s = if 4096 < s.length then .bad 0 3 else lexB 0 0 s := by
  unfold ofB piecesB lexB
  have := fold_lex s (s.length + 1) 0 0
  rw [List.drop_zero, Nat.zero_add] at this
  rw [this]

/-- one word, and the others -/
theorem lexB_nil (n a : Nat) (l : List UInt8) (h : l.dropWhile blank = []) : lexB n a l = .ok [] := by
  unfold lexB lexF; rw [h]
theorem lexB_cons (n a : Nat) (l : List UInt8) (c : UInt8) (r : List UInt8) (h : l.dropWhile blank = c :: r) :
    lexB n a l = match stepB n ((c :: r).take (extentB (c :: r))) with
      | .no e => .bad (a + runB blank l) e
      | .yes k t i => (lexB (n + 1) (a + runB blank l + extentB (c :: r)) ((c :: r).drop (extentB (c :: r)))).cons ⟨k, t, i, a + runB blank l⟩ := by
  have hle : (c :: r).length ≤ l.length := by rw [← h]; exact (List.dropWhile_suffix blank).length_le
  unfold lexB
  conv => lhs; unfold lexF
  rw [h]
  dsimp only
  obtain ⟨z, hz⟩ : ∃ z, extentB (c :: r) = z := ⟨_, rfl⟩
  rw [hz]
  rw [List.length_cons] at hle
  cases hs : stepB n ((c :: r).take z) with
  | no e => rfl
  | yes k t i =>
    have h0 : 0 < z := by
      apply Nat.pos_of_ne_zero
      intro e
      subst e
      rw [List.take_zero] at hs
      unfold stepB at hs
      rw [wordB_nil rfl] at hs
      split at hs <;> cases hs
    simp only
    rw [lexF_more l.length (((c :: r).drop z).length + 1) _ _ _ (by rw [List.length_drop, List.length_cons]; omega) (by omega)]
end Go.Proofs.YtfdjeaieddcgdaaDoor
