/-
  WHAT IS PROVED: plain mathematics of words: words that are written with one blank between are read again.
-/
import Derived.Test.YtfdjeaieddcgdaaDoorWoJoin
namespace Go.Proofs.YtfdjeaieddcgdaaDoor

theorem forall_u8 (P : UInt8 → Prop) (h : ∀ n, n < 256 → P (UInt8.ofNat n)) (c : UInt8) : P c := by
  have := h c.toNat c.toNat_lt
  rwa [UInt8.ofNat_toNat] at this

/-- a byte of a name in small letters -/
def low (c : UInt8) : Bool := small c || (digitB c || c.toNat == 95)
theorem low_of (c : UInt8) (h : follow c = true) : low (Lib.lowerB c) = true := by
  revert h
  exact forall_u8 (fun c => follow c = true → low (Lib.lowerB c) = true) (by decide +kernel) c
theorem small_of (c : UInt8) (h : letter c = true) : small (Lib.lowerB c) = true := by
  revert h
  exact forall_u8 (fun c => letter c = true → small (Lib.lowerB c) = true) (by decide +kernel) c
theorem low_same (c : UInt8) (h : low c = true) : Lib.lowerB c = c ∧ follow c = true := by
  revert h
  exact forall_u8 (fun c => low c = true → Lib.lowerB c = c ∧ follow c = true) (by decide +kernel) c
/-- a letter in great -/
def greatB (c : UInt8) : UInt8 := if small c then c - 32 else c
theorem great_low (c : UInt8) (h : low c = true) : Lib.lowerB (greatB c) = c ∧ follow (greatB c) = true := by
  revert h
  exact forall_u8 (fun c => low c = true → Lib.lowerB (greatB c) = c ∧ follow (greatB c) = true) (by decide +kernel) c
theorem great_small (c : UInt8) (h : small c = true) : letter (greatB c) = true ∧ letter c = true := by
  revert h
  exact forall_u8 (fun c => small c = true → letter (greatB c) = true ∧ letter c = true) (by decide +kernel) c
theorem letter_not (c : UInt8) (h : letter c = true) : blank c = false ∧ follow c = true ∧ digitB c = false := by
  revert h
  exact forall_u8 (fun c => letter c = true → blank c = false ∧ follow c = true ∧ digitB c = false) (by decide +kernel) c
theorem digit_not (c : UInt8) (h : digitB c = true) : blank c = false ∧ letter c = false := by
  revert h
  exact forall_u8 (fun c => digitB c = true → blank c = false ∧ letter c = false) (by decide +kernel) c

/-! ### Numbers -/
def valB (a : Nat) (l : List UInt8) : Nat := l.foldl (fun a c => a * 10 + (c.toNat - 48)) a
theorem valB_ge : ∀ (l : List UInt8) (a : Nat), a ≤ valB a l
  | [], a => Nat.le_refl _
  | c :: l, a => by
    have := valB_ge l (a * 10 + (c.toNat - 48))
    show a ≤ valB (a * 10 + (c.toNat - 48)) l
    omega
theorem uint_val (M : Nat) (hM : M = 18446744073709551615) : ∀ (l : List UInt8) (a : Nat), (∀ c ∈ l, digitB c = true) → a ≤ M → Lib.parseUintM M a l = if valB a l ≤ M then .ok (valB a l) else .range
  | [], a, _, ha => by simp [Lib.parseUintM, valB, ha]
  | c :: l, a, h, ha => by
    have hc := h c List.mem_cons_self
    unfold digitB at hc
    simp only [Bool.and_eq_true, decide_eq_true_eq] at hc
    have hge := valB_ge l (a * 10 + (c.toNat - 48))
    have hv : valB a (c :: l) = valB (a * 10 + (c.toNat - 48)) l := rfl
    rw [hv]
    unfold Lib.parseUintM
    rw [if_pos hc]
    by_cases h1 : 1844674407370955162 ≤ a
    · rw [if_pos h1, if_neg (by omega)]
    · rw [if_neg h1]
      by_cases h2 : M < a * 10 + (c.toNat - 48)
      · rw [if_pos h2, if_neg (by omega)]
      · rw [if_neg h2]
        exact uint_val M hM l _ (fun x hx => h x (List.mem_cons_of_mem _ hx)) (by omega)
theorem numB_val (l : List UInt8) (hl : l ≠ []) (h : ∀ c ∈ l, digitB c = true) : numB l = if valB 0 l < 9223372036854775808 then some (valB 0 l) else none := by
  cases l with
  | nil => exact absurd rfl hl
  | cons c r =>
    have hc := h c List.mem_cons_self
    unfold digitB at hc
    simp only [Bool.and_eq_true, decide_eq_true_eq] at hc
    unfold numB Lib.parseIntB
    have e1 : ¬ (c.toNat = 43 ∨ c.toNat = 45) := by omega
    have e2 : ¬ c.toNat = 45 := by omega
    simp only [if_neg e1]
    unfold Lib.parseUintB
    rw [if_neg (by simp), show (2 : Nat) ^ 64 - 1 = 18446744073709551615 from rfl, uint_val _ rfl (c :: r) 0 h (by omega)]
    obtain ⟨v, hv⟩ : ∃ v, valB 0 (c :: r) = v := ⟨_, rfl⟩
    rw [hv]
    by_cases h1 : v ≤ 18446744073709551615
    · rw [if_pos h1]
      dsimp only
      by_cases h2 : v < 9223372036854775808
      · rw [if_neg (by simp [e2]; omega), if_neg (by simp [e2]), if_neg e2, if_pos h2]
        simp
      · rw [if_pos ⟨e2, by omega⟩, if_neg h2]
    · rw [if_neg h1, if_neg (by omega)]

/-- a number's digits -/
def digF : Nat → Nat → List UInt8 → List UInt8
  | 0, _, l => l
  | f + 1, n, l => if n = 0 then l else digF f (n / 10) (UInt8.ofNat (48 + n % 10) :: l)
def digitsB (n : Nat) : List UInt8 := if n = 0 then [48] else digF 20 n []
theorem valB_app (a : Nat) (l m : List UInt8) : valB a (l ++ m) = valB (valB a l) m := by unfold valB; rw [List.foldl_append]
theorem digF_val : ∀ (f n : Nat) (l : List UInt8), n < 10 ^ f → valB 0 (digF f n l) = valB n l
  | 0, n, l, h => by have : n = 0 := by simpa using h
                     subst this; rfl
  | f + 1, n, l, h => by
    unfold digF
    by_cases h0 : n = 0
    · rw [if_pos h0, h0]
    · rw [if_neg h0, digF_val f (n / 10) _ (by rw [Nat.pow_succ] at h; omega)]
      show valB (n / 10 * 10 + ((UInt8.ofNat (48 + n % 10)).toNat - 48)) l = _
      have : (UInt8.ofNat (48 + n % 10)).toNat = 48 + n % 10 := by simp; omega
      rw [this]
      congr 1
      omega
theorem digF_dig : ∀ (f n : Nat) (l : List UInt8), (∀ c ∈ l, digitB c = true) → ∀ c ∈ digF f n l, digitB c = true
  | 0, _, _, h => h
  | f + 1, n, l, h => by
    unfold digF
    split
    · exact h
    · refine digF_dig f _ _ (fun c hc => ?_)
      rcases List.mem_cons.1 hc with rfl | hc
      · have : (UInt8.ofNat (48 + n % 10)).toNat = 48 + n % 10 := by simp; omega
        unfold digitB
        rw [this]
        simp; omega
      · exact h c hc
theorem digF_ne : ∀ (f n : Nat) (l : List UInt8), l ≠ [] → digF f n l ≠ []
  | 0, _, _, h => h
  | f + 1, n, l, h => by
    unfold digF
    split
    · exact h
    · exact digF_ne f _ _ (by simp)
theorem digitsB_ne (n : Nat) : digitsB n ≠ [] := by
  unfold digitsB
  split
  · simp
  · rename_i h
    unfold digF
    rw [if_neg h]
    exact digF_ne _ _ _ (by simp)
theorem digitsB_dig (n : Nat) : ∀ c ∈ digitsB n, digitB c = true := by
  unfold digitsB
  split
  · intro c hc
    rw [List.mem_singleton.1 hc]; decide
  · exact digF_dig _ _ _ (fun c hc => by cases hc)
theorem digitsB_val (n : Nat) (h : n < 10 ^ 20) : valB 0 (digitsB n) = n := by
  unfold digitsB
  split
  · rename_i h0; subst h0; rfl
  · rw [digF_val 20 n [] h]; rfl
theorem valB_zeros (k : Nat) (l : List UInt8) : valB 0 (List.replicate k 48 ++ l) = valB 0 l := by
  rw [valB_app]
  congr 1
  induction k with
  | zero => rfl
  | succ k ih => rw [List.replicate_succ]; exact ih

/-! ### Texts -/
def dblB (l : List UInt8) : List UInt8 := l.flatMap fun c => if c = 39 then [39, 39] else [c]
theorem dblB_cons (c : UInt8) (l : List UInt8) : dblB (c :: l) = (if c = 39 then [39, 39] else [c]) ++ dblB l := rfl
theorem undbl_dbl : ∀ l : List UInt8, undbl (dblB l) = l
  | [] => rfl
  | c :: l => by
    rw [dblB_cons]
    by_cases hc : c = 39
    · subst hc
      rw [if_pos rfl]
      show undbl (39 :: 39 :: dblB l) = _
      rw [undbl, if_pos ⟨rfl, rfl⟩, undbl_dbl l]
    · rw [if_neg hc]
      show undbl (c :: dblB l) = _
      cases hd : dblB l with
      | nil =>
        have : l = [] := by have h := undbl_dbl l; rw [hd] at h; exact h.symm
        subst this; rfl
      | cons d r =>
        have h := undbl_dbl l
        rw [hd] at h
        rw [undbl, if_neg (fun e => hc e.1), h]
theorem closeB_dbl (x : List UInt8) (hx : Ends x) : ∀ l : List UInt8, closeB (dblB l ++ 39 :: x) = some ((dblB l).length + 1)
  | [] => by
    show closeB (39 :: x) = some 1
    cases x with
    | nil => rfl
    | cons d r =>
      have hd : d ≠ 39 := fun e => by have := hx d r rfl; subst e; revert this; decide
      simp [closeB, hd]
  | c :: l => by
    have ih := closeB_dbl x hx l
    rw [dblB_cons]
    by_cases hc : c = 39
    · subst hc
      rw [if_pos rfl]
      show closeB (39 :: 39 :: (dblB l ++ 39 :: x)) = _
      rw [closeB, if_pos rfl, if_pos rfl, ih]
      simp
    · rw [if_neg hc]
      show closeB (c :: (dblB l ++ 39 :: x)) = _
      cases hd : dblB l ++ 39 :: x with
      | nil => simp at hd
      | cons d r =>
        rw [closeB, if_neg hc, ← hd, ih]
        simp
theorem closeB_open : ∀ l : List UInt8, closeB (dblB l) = none
  | [] => rfl
  | c :: l => by
    have ih := closeB_open l
    rw [dblB_cons]
    by_cases hc : c = 39
    · subst hc
      rw [if_pos rfl]
      show closeB (39 :: 39 :: dblB l) = _
      rw [closeB, if_pos rfl, if_pos rfl, ih]; rfl
    · rw [if_neg hc]
      show closeB (c :: dblB l) = _
      cases hd : dblB l with
      | nil => simp [closeB, hc]
      | cons d r => rw [closeB, if_neg hc, ← hd, ih]; rfl

/-! ### Words that may be -/
structure FineW (w : WordM) : Prop where
  name : w.kind = 1 → (∃ c r, w.s = c :: r ∧ small c = true) ∧ (∀ c ∈ w.s, low c = true) ∧ w.s.length ≤ 16 ∧ w.i = 0
  num : w.kind = 2 → w.s = [] ∧ w.i < 9223372036854775808
  text : w.kind = 3 → w.s.length ≤ 512 ∧ w.i = 0
  sign : w.kind = 4 → w.s ∈ signsB ∧ w.i = 0
  kinds : w.kind = 1 ∨ w.kind = 2 ∨ w.kind = 3 ∨ w.kind = 4

theorem run_all (p : UInt8 → Bool) (l : List UInt8) : ∀ c ∈ l.take (runB p l), p c = true := by
  induction l with
  | nil => intro c hc; simp at hc
  | cons d r ih =>
    intro c hc
    rw [runB_cons] at hc
    cases hp : p d with
    | false => rw [hp] at hc; simp at hc
    | true =>
      rw [hp, if_pos rfl, List.take_succ_cons] at hc
      rcases List.mem_cons.1 hc with rfl | hc
      · exact hp
      · exact ih c hc
theorem run_whole (p : UInt8 → Bool) (l : List UInt8) (h : ∀ c ∈ l, p c = true) : runB p l = l.length := by
  induction l with
  | nil => rfl
  | cons d r ih => rw [runB_cons, h d List.mem_cons_self, if_pos rfl, ih (fun c hc => h c (List.mem_cons_of_mem _ hc))]; rfl

theorem fine_of (l : List UInt8) (n k i a : Nat) (t : List UInt8) (h : stepB n (l.take (extentB l)) = .yes k t i) : FineW ⟨k, t, i, a⟩ := by
  unfold stepB at h
  split at h
  · cases h
  cases l with
  | nil => cases h
  | cons c r =>
    obtain ⟨z, hz⟩ : ∃ z, extentB (c :: r) = z := ⟨_, rfl⟩
    rw [hz] at h
    cases z with
    | zero => rw [List.take_zero, wordB_nil rfl] at h; cases h
    | succ z =>
      rw [List.take_succ_cons] at h
      simp only [wordB] at h
      simp only [extentB] at hz
      by_cases hl : letter c = true
      · rw [if_pos hl] at h
        split at h
        · cases h
        rename_i hlen
        cases h
        rw [if_pos hl] at hz
        have hall := run_all follow (c :: r)
        rw [hz, List.take_succ_cons] at hall
        refine ⟨fun _ => ⟨⟨Lib.lowerB c, (r.take z).map Lib.lowerB, rfl, small_of c hl⟩, fun x hx => ?_, ?_, rfl⟩, fun h => by simp at h, fun h => by simp at h, fun h => by simp at h, .inl rfl⟩
        · obtain ⟨y, hy, rfl⟩ := List.mem_map.1 hx
          exact low_of y (hall y hy)
        · show ((c :: r.take z).map Lib.lowerB).length ≤ 16
          rw [List.length_map]; omega
      · rw [if_neg hl] at h hz
        by_cases hd : digitB c = true
        · rw [if_pos hd] at h hz
          have hall := run_all digitB (c :: r)
          rw [hz, List.take_succ_cons] at hall
          rw [numB_val _ (by simp) hall] at h
          split at h
          · cases h
          rename_i v hv
          cases h
          split at hv
          · cases hv
            refine ⟨fun h => by simp at h, fun _ => ⟨rfl, by assumption⟩, fun h => by simp at h, fun h => by simp at h, .inr (.inl rfl)⟩
          · cases hv
        · rw [if_neg hd] at h hz
          by_cases hq : c = 39
          · rw [if_pos hq] at h
            split at h
            · cases h
            rename_i hlen
            cases h
            exact ⟨fun h => by simp at h, fun h => by simp at h, fun _ => ⟨Nat.le_of_not_lt hlen, rfl⟩, fun h => by simp at h, .inr (.inr (.inl rfl))⟩
          · rw [if_neg hq] at h hz
            cases h
            refine ⟨fun h => by simp at h, fun h => by simp at h, fun h => by simp at h, fun _ => ⟨?_, rfl⟩, .inr (.inr (.inr rfl))⟩
            unfold signB at hz
            cases hf : signsB.find? fun x => x.isPrefixOf (c :: r) with
            | none => rw [hf] at hz; cases hz
            | some x =>
              rw [hf] at hz
              have h1 := List.find?_some hf
              have h2 := List.mem_of_find?_eq_some hf
              obtain ⟨y, hy⟩ := List.isPrefixOf_iff_prefix.1 h1
              have h3 : x.length = z + 1 := hz
              have : c :: r.take z = x := by
                rw [← List.take_succ_cons, ← hy, List.take_append_of_le_length (by omega), ← h3, List.take_length]
              rw [this]
              exact h2

theorem fine_all (m : List WordM) : ∀ (f n a : Nat) (l : List UInt8), l.length < f → n ≤ 1024 → lexB n a l = .ok m → (∀ w ∈ m, FineW w) ∧ n + m.length ≤ 1024
  := by
  induction m with
  | nil => intro f n a l _ hn _; exact ⟨fun w hw => (by cases hw), by simpa using hn⟩
  | cons w m ih =>
    intro f n a l hf hnn h
    cases hr : l.dropWhile blank with
    | nil => rw [lexB_nil _ _ _ hr] at h; cases h
    | cons c r =>
      have hle := run_drop_len blank l
      rw [hr, List.length_cons] at hle
      rw [lexB_cons _ _ _ _ _ hr] at h
      obtain ⟨z, hz⟩ : ∃ z, extentB (c :: r) = z := ⟨_, rfl⟩
      rw [hz] at h
      cases hs : stepB n ((c :: r).take z) with
      | no e => rw [hs] at h; cases h
      | yes kk t i =>
        have h0 := yes_pos hs
        have hn : n ≠ 1024 := by intro e; subst e; unfold stepB at hs; rw [if_pos rfl] at hs; cases hs
        rw [hs] at h
        dsimp only at h
        cases hl : lexB (n + 1) (a + runB blank l + z) ((c :: r).drop z) with
        | bad p e => rw [hl] at h; cases h
        | ok m' =>
          rw [hl] at h
          cases h
          obtain ⟨h1, h2⟩ := ih f (n + 1) _ _ (by rw [List.length_drop, List.length_cons]; omega) (by omega) hl
          refine ⟨fun x hx => ?_, by rw [List.length_cons]; omega⟩
          rcases List.mem_cons.1 hx with rfl | hx
          · rw [← hz] at hs
            exact fine_of (c :: r) n kk i _ t hs
          · exact h1 x hx

/-! ### Words as a text -/
def textW (g : Bool) (w : WordM) : List UInt8 := if w.kind = 2 then digitsB w.i else if w.kind = 3 then 39 :: (dblB w.s ++ [39]) else if g then w.s.map greatB else w.s

theorem sign_great : ∀ y ∈ signsB, y.map greatB = y := by decide +kernel
theorem sign_alone : ∀ y ∈ signsB, signB y = y.length ∧ (∃ c r, y = c :: r ∧ blank c = false ∧ letter c = false ∧ digitB c = false ∧ c ≠ 39) := by
  have : signsB.all (fun y => (signB y == y.length) && (match y with | [] => false | c :: _ => !blank c && !letter c && !digitB c && !(c == 39))) = true := by decide +kernel
  intro y hy
  have h := List.all_eq_true.1 this y hy
  cases y with
  | nil => simp at h
  | cons c r =>
    simp only [Bool.and_eq_true, beq_iff_eq, Bool.not_eq_true', beq_eq_false_iff_ne] at h
    obtain ⟨h1, ⟨⟨h2, h3⟩, h4⟩, h5⟩ := h
    exact ⟨h1, c, r, rfl, h2, h3, h4, h5⟩

/-- a word's text, a blank behind it or nothing, begins no other word -/
theorem textW_reads (g : Bool) (w : WordM) (hw : FineW w) (x : List UInt8) (hx : Ends x) :
    (∃ c r, textW g w ++ x = c :: r ∧ blank c = false) ∧ extentB (textW g w ++ x) = (textW g w).length ∧ wordB (textW g w) = .yes w.kind w.s w.i ∧ textW g w ≠ [] := by
  rcases hw.kinds with hk | hk | hk | hk
  · obtain ⟨⟨c, r, hs, hc⟩, hlow, hlen, hi⟩ := hw.name hk
    obtain ⟨u, hu⟩ : ∃ u, textW g w = u := ⟨_, rfl⟩
    have key : ∃ d s, u = d :: s ∧ letter d = true ∧ (∀ y ∈ u, follow y = true) ∧ Lib.toLowerA u = w.s ∧ u.length = w.s.length := by
      unfold textW at hu
      rw [if_neg (by omega), if_neg (by omega)] at hu
      cases g with
      | false =>
        simp only [Bool.false_eq_true, if_false] at hu
        refine ⟨c, r, by rw [← hu, hs], (great_small c hc).2, fun y hy => (low_same y (hlow y (by rw [hu]; exact hy))).2, ?_, by rw [hu]⟩
        rw [← hu]
        unfold Lib.toLowerA
        conv => rhs; rw [← List.map_id w.s]
        exact List.map_congr_left fun y hy => (low_same y (hlow y hy)).1
      | true =>
        simp only [if_true] at hu
        refine ⟨greatB c, r.map greatB, by rw [← hu, hs]; rfl, (great_small c hc).1, fun y hy => ?_, ?_, by rw [← hu, List.length_map]⟩
        · rw [← hu] at hy
          obtain ⟨y', hy', rfl⟩ := List.mem_map.1 hy
          exact (great_low y' (hlow y' hy')).2
        · rw [← hu]
          unfold Lib.toLowerA
          rw [List.map_map]
          conv => rhs; rw [← List.map_id w.s]
          exact List.map_congr_left fun y hy => (great_low y (hlow y hy)).1
    obtain ⟨d, s, rfl, hd, hf, ht, hl⟩ := key
    rw [hu]
    obtain ⟨n1, n2, n3⟩ := letter_not d hd
    refine ⟨⟨d, s ++ x, rfl, n1⟩, ?_, ?_, by simp⟩
    · rw [List.cons_append]
      simp only [extentB]
      rw [if_pos hd, ← List.cons_append, runB_app follow (fun c => follow_blank) _ x hx, run_whole follow _ hf]
    · simp only [wordB]
      rw [if_pos hd, if_neg (by omega), ht, hk, hi]
  · obtain ⟨hs, hi⟩ := hw.num hk
    have hu : textW g w = digitsB w.i := by unfold textW; rw [if_pos hk]
    rw [hu]
    have hne := digitsB_ne w.i
    have hdg := digitsB_dig w.i
    have hval := digitsB_val w.i (by omega)
    cases he : digitsB w.i with
    | nil => exact absurd he hne
    | cons d s =>
      rw [he] at hdg hval
      have hd := hdg d List.mem_cons_self
      obtain ⟨n1, n2⟩ := digit_not d hd
      refine ⟨⟨d, s ++ x, rfl, n1⟩, ?_, ?_, by simp⟩
      · rw [List.cons_append]
        simp only [extentB]
        rw [if_neg (by rw [n2]; simp), if_pos hd, ← List.cons_append, runB_app digitB (fun c => digitB_blank) _ x hx, run_whole digitB _ hdg]
      · simp only [wordB]
        rw [if_neg (by rw [n2]; simp), if_pos hd, numB_val _ (by simp) hdg, hval, if_pos hi, hk, hs]
  · obtain ⟨hlen, hi⟩ := hw.text hk
    have hu : textW g w = 39 :: (dblB w.s ++ [39]) := by unfold textW; rw [if_neg (by omega), if_pos hk]
    rw [hu]
    have e1 : letter 39 = false := by decide
    have e2 : digitB 39 = false := by decide
    refine ⟨⟨39, dblB w.s ++ [39] ++ x, rfl, by decide⟩, ?_, ?_, by simp⟩
    · rw [List.cons_append]
      simp only [extentB]
      rw [if_neg (by rw [e1]; simp), if_neg (by rw [e2]; simp), if_pos trivial]
      unfold quotedB
      rw [List.tail_cons, List.append_assoc, List.singleton_append, closeB_dbl x hx]
      simp
    · have hin : insideB (39 :: (dblB w.s ++ [39])) = dblB w.s := by
        unfold insideB
        rw [List.drop_succ_cons, List.drop_zero, List.take_append_of_le_length (by simp)]
        simp
      simp only [wordB]
      rw [if_neg (by rw [e1]; simp), if_neg (by rw [e2]; simp), if_pos trivial, hin, undbl_dbl, if_neg (by omega), hk, hi]
  · obtain ⟨hs, hi⟩ := hw.sign hk
    have hu : textW g w = w.s := by
      unfold textW
      rw [if_neg (by omega), if_neg (by omega)]
      cases g with
      | false => rfl
      | true => exact sign_great w.s hs
    rw [hu]
    obtain ⟨h1, c, r, h2, h3, h4, h5, h6⟩ := sign_alone w.s hs
    rw [h2] at h1
    rw [h2]
    refine ⟨⟨c, r ++ x, rfl, h3⟩, ?_, ?_, by simp⟩
    · rw [List.cons_append]
      simp only [extentB]
      rw [if_neg (by rw [h4]; simp), if_neg (by rw [h5]; simp), if_neg h6, ← List.cons_append, signB_app _ x (by simp) hx, h1]
    · simp only [wordB]
      rw [if_neg (by rw [h4]; simp), if_neg (by rw [h5]; simp), if_neg h6, hk, hi]

/-- with one blank between each two -/
def textL (g : Bool) : List WordM → List UInt8
  | [] => []
  | [w] => textW g w
  | w :: v :: l => textW g w ++ 32 :: textL g (v :: l)
def SameW (v w : WordM) : Prop := v.kind = w.kind ∧ v.s = w.s ∧ v.i = w.i
def Alike : List WordM → List WordM → Prop
  | [], [] => True
  | v :: l, w :: m => SameW v w ∧ Alike l m
  | _, _ => False

theorem ends_blank (x : List UInt8) : Ends (32 :: x) := fun c r e => by cases e; decide
theorem ends_nil : Ends [] := fun c r e => by cases e

theorem lexB_word (g : Bool) (w : WordM) (hw : FineW w) (x : List UInt8) (hx : Ends x) (n a : Nat) (hn : n ≠ 1024) :
    lexB n a (textW g w ++ x) = (lexB (n + 1) (a + (textW g w).length) x).cons ⟨w.kind, w.s, w.i, a⟩ := by
  obtain ⟨⟨c, r, h1, h2⟩, h3, h4, h5⟩ := textW_reads g w hw x hx
  have hd : (textW g w ++ x).dropWhile blank = c :: r := by rw [h1, List.dropWhile_cons_of_neg (by rw [h2]; simp)]
  rw [lexB_cons n a _ c r hd, ← h1, h3, List.take_append_of_le_length (Nat.le_refl _), List.take_length]
  have hb : runB blank (textW g w ++ x) = 0 := by rw [h1, runB_cons, h2]; rfl
  unfold stepB
  rw [if_neg hn, h4, hb]
  dsimp only
  rw [List.drop_append_of_le_length (Nat.le_refl _), List.drop_length, List.nil_append]; rfl
theorem lexB_blank (n a : Nat) (x : List UInt8) : lexB n a (32 :: x) = lexB n (a + 1) x := by
  have h := lexB_app (32 :: x) (ends_blank x) 1 n a [] (by simp) (fun p e hb => by rw [lexB_nil n a [] rfl] at hb; cases hb)
  have hd : (32 :: x).dropWhile blank = x.dropWhile blank := by rw [List.dropWhile_cons_of_pos (by decide)]
  have hr : runB blank (32 :: x) = runB blank x + 1 := by rw [runB_cons, if_pos (by decide)]
  cases hx : x.dropWhile blank with
  | nil => rw [hx] at hd; rw [lexB_nil _ _ _ hd, lexB_nil _ _ _ hx]
  | cons c r =>
    rw [hx] at hd
    rw [lexB_cons _ _ _ _ _ hd, lexB_cons _ _ _ _ _ hx, hr, show a + (runB blank x + 1) = a + 1 + runB blank x by omega]

theorem lexB_again (g : Bool) : ∀ (m : List WordM) (n a : Nat), (∀ w ∈ m, FineW w) → n + m.length ≤ 1024 → ∃ o, lexB n a (textL g m) = .ok o ∧ Alike m o
  | [], n, a, _, _ => ⟨[], lexB_nil _ _ _ rfl, trivial⟩
  | [w], n, a, h, hn => by
    have := lexB_word g w (h w List.mem_cons_self) [] ends_nil n a (by simp at hn; omega)
    rw [List.append_nil, lexB_nil _ _ [] rfl] at this
    exact ⟨_, this, ⟨rfl, rfl, rfl⟩, trivial⟩
  | w :: v :: l, n, a, h, hn => by
    have h1 := lexB_word g w (h w List.mem_cons_self) (32 :: textL g (v :: l)) (ends_blank _) n a (by simp at hn; omega)
    obtain ⟨o, h2, h3⟩ := lexB_again g (v :: l) (n + 1) (a + (textW g w).length + 1) (fun w hw => h w (List.mem_cons_of_mem _ hw)) (by simp at hn ⊢; omega)
    rw [lexB_blank, h2] at h1
    exact ⟨_, h1, ⟨rfl, rfl, rfl⟩, h3⟩

/-- where words begin: one behind the other -/
theorem lexB_rise (m : List WordM) : ∀ (f n a : Nat) (l : List UInt8), l.length < f → lexB n a l = .ok m → ∀ j w, m[j]? = some w → a ≤ w.pos ∧ w.pos < a + l.length ∧ ∀ v, m[j + 1]? = some v → w.pos < v.pos := by
  induction m with
  | nil => intro f n a l _ _ j w hj; simp at hj
  | cons w0 m ih =>
    intro f n a l hf h
    cases hr : l.dropWhile blank with
    | nil => rw [lexB_nil _ _ _ hr] at h; cases h
    | cons c r =>
      have hle := run_drop_len blank l
      rw [hr, List.length_cons] at hle
      rw [lexB_cons _ _ _ _ _ hr] at h
      have hzl := extentB_le (c :: r)
      obtain ⟨z, hz⟩ : ∃ z, extentB (c :: r) = z := ⟨_, rfl⟩
      rw [hz] at h hzl
      rw [List.length_cons] at hzl
      cases hs : stepB n ((c :: r).take z) with
      | no e => rw [hs] at h; cases h
      | yes kk t i =>
        have h0 := yes_pos hs
        rw [hs] at h
        dsimp only at h
        cases hl : lexB (n + 1) (a + runB blank l + z) ((c :: r).drop z) with
        | bad p e => rw [hl] at h; cases h
        | ok m' =>
          rw [hl] at h
          cases h
          have hI := ih f (n + 1) _ _ (by rw [List.length_drop, List.length_cons]; omega) hl
          rw [List.length_drop, List.length_cons] at hI
          intro j w hj
          cases j with
          | zero =>
            cases hj
            refine ⟨Nat.le_add_right _ _, (show a + runB blank l < _ by omega), fun v hv => ?_⟩
            have := hI 0 v hv
            show a + runB blank l < _
            omega
          | succ j =>
            have := hI j w hj
            exact ⟨by omega, by omega, this.2.2⟩
end Go.Proofs.YtfdjeaieddcgdaaDoor
