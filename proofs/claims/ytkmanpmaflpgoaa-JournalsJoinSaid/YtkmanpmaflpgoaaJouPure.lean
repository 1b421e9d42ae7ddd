/-
  WHAT IS PROVED: plain mathematics of journals: a part's checksum and bytes, a record's parts, what is read of bytes; records that are written one behind the other are read again; what is read where the bytes end within one. No program is named here.
-/
namespace Go.Proofs.Ytkmanpmaflpgoaa

/-- one bit of a checksum -/
def stepC (s : Nat) : Nat := (s / 2) ^^^ (if s % 2 = 1 then 2197175160 else 0)
def stepsC : Nat → Nat → Nat
  | 0, s => s
  | n + 1, s => stepC (stepsC n s)
def mixC (s c : Nat) : Nat := stepsC 8 (s ^^^ c)
def sumC (k : Nat) (l : List Nat) : Nat := l.foldl mixC (mixC 4294967295 k)
def crcN (k : Nat) (l : List Nat) : Nat := 4294967295 - sumC k l

theorem stepC_lt {s : Nat} (h : s < 4294967296) : stepC s < 4294967296 := by
  unfold stepC
  have : s / 2 < 2 ^ 32 := by omega
  split
  · exact Nat.xor_lt_two_pow this (by omega)
  · exact Nat.xor_lt_two_pow this (by omega)
theorem stepsC_lt (n : Nat) {s : Nat} (h : s < 4294967296) : stepsC n s < 4294967296 := by
  induction n with
  | zero => exact h
  | succ n ih => exact stepC_lt ih
theorem xorC_lt {s c : Nat} (h : s < 4294967296) (hc : c < 256) : s ^^^ c < 4294967296 := Nat.xor_lt_two_pow (n := 32) h (by omega)
theorem mixC_lt {s c : Nat} (h : s < 4294967296) (hc : c < 256) : mixC s c < 4294967296 := stepsC_lt 8 (xorC_lt h hc)
theorem sumC_lt {k : Nat} (hk : k < 256) (l : List Nat) (hl : ∀ x ∈ l, x < 256) : sumC k l < 4294967296 := by
  unfold sumC
  have : ∀ (l : List Nat) (s : Nat), s < 4294967296 → (∀ x ∈ l, x < 256) → l.foldl mixC s < 4294967296 := by
    intro l
    induction l with
    | nil => intro s h _; exact h
    | cons a r ih => intro s h hl; exact ih _ (mixC_lt h (hl a (by simp))) (fun x hx => hl x (by simp [hx]))
  exact this l _ (mixC_lt (by omega) hk) hl
theorem sumC_next (k : Nat) (l : List Nat) (c : Nat) : sumC k (l ++ [c]) = mixC (sumC k l) c := by
  unfold sumC; rw [List.foldl_append]; rfl
theorem crcN_lt (k : Nat) (l : List Nat) : crcN k l < 4294967296 := by unfold crcN; omega

/-- how many bytes of its block are left -/
def roomN (a : Nat) : Nat := 128 - a % 128
/-- where a part may begin -/
def startN (a : Nat) : Nat := if roomN a ≤ 7 then a + roomN a else a
theorem roomN_pos (a : Nat) : 0 < roomN a ∧ roomN a ≤ 128 := by unfold roomN; omega
theorem startN_ge (a : Nat) : a ≤ startN a ∧ startN a ≤ a + 7 := by unfold startN; have := roomN_pos a; split <;> omega
theorem startN_room (a : Nat) : 7 < roomN (startN a) := by
  unfold startN roomN
  split <;> omega
theorem startN_same {a : Nat} (h : 7 < roomN a) : startN a = a := by unfold startN; rw [if_neg (by omega)]
theorem roomN_next (a : Nat) : roomN (a + roomN a) = 128 := by unfold roomN; omega

def kindN : Bool → Bool → Nat
  | true, true => 1
  | true, false => 2
  | false, true => 4
  | false, false => 3
theorem kindN_lt (a b : Bool) : kindN a b < 256 := by cases a <;> cases b <;> decide

/-- a part's head -/
def headB (k : Nat) (d : List Nat) : List Nat :=
  [crcN k d / 16777216 % 256, crcN k d / 65536 % 256, crcN k d / 256 % 256, crcN k d % 256, d.length / 256 % 256, d.length % 256, k]
def partB (k : Nat) (d : List Nat) : List Nat := headB k d ++ d
theorem headB_length (k : Nat) (d : List Nat) : (headB k d).length = 7 := rfl
theorem partB_length (k : Nat) (d : List Nat) : (partB k d).length = 7 + d.length := by unfold partB; rw [List.length_append, headB_length]
theorem partB_byte {k : Nat} {d : List Nat} (hk : k < 256) (hd : ∀ x ∈ d, x < 256) : ∀ x ∈ partB k d, x < 256 := by
  intro x hx
  unfold partB headB at hx
  simp only [List.mem_append, List.mem_cons, List.not_mem_nil, or_false] at hx
  rcases hx with (h | h | h | h | h | h | h) | h
  · omega
  · omega
  · omega
  · omega
  · omega
  · omega
  · omega
  · exact hd x h

/-- a record's parts -/
def partsB (a : Nat) (begins : Bool) (r : List Nat) : List Nat :=
  if r.length ≤ roomN a - 7 then partB (kindN begins true) r
  else if roomN a ≤ 7 then []
  else partB (kindN begins false) (r.take (roomN a - 7)) ++ partsB (a + roomN a) false (r.drop (roomN a - 7))
termination_by r.length
decreasing_by simp; omega

theorem partsB_last {a : Nat} {r : List Nat} (begins : Bool) (h : r.length ≤ roomN a - 7) : partsB a begins r = partB (kindN begins true) r := by rw [partsB, if_pos h]
theorem partsB_more {a : Nat} {r : List Nat} (begins : Bool) (h : ¬ r.length ≤ roomN a - 7) (ha : 7 < roomN a) :
    partsB a begins r = partB (kindN begins false) (r.take (roomN a - 7)) ++ partsB (a + roomN a) false (r.drop (roomN a - 7)) := by
  conv => lhs; rw [partsB]
  rw [if_neg h, if_neg (by omega)]

/-- a record as it is written from a place on -/
def writtenB (r : List Nat) (a : Nat) : List Nat := List.replicate (startN a - a) 0 ++ partsB (startN a) true r

theorem partsB_byte (n : Nat) : ∀ (r : List Nat) (a : Nat) (begins : Bool), r.length ≤ n → (∀ x ∈ r, x < 256) → ∀ x ∈ partsB a begins r, x < 256 := by
  induction n with
  | zero =>
    intro r a begins hn hr
    rw [partsB_last begins (by omega)]
    exact partB_byte (kindN_lt _ _) hr
  | succ n ih =>
    intro r a begins hn hr
    by_cases h : r.length ≤ roomN a - 7
    · rw [partsB_last begins h]; exact partB_byte (kindN_lt _ _) hr
    · by_cases ha : 7 < roomN a
      · rw [partsB_more begins h ha]
        intro x hx
        rcases List.mem_append.1 hx with hx | hx
        · exact partB_byte (kindN_lt _ _) (fun y hy => hr y (List.mem_of_mem_take hy)) x hx
        · exact ih _ _ _ (by simp; omega) (fun y hy => hr y (List.mem_of_mem_drop hy)) x hx
      · rw [partsB, if_neg h, if_pos (by omega)]; intro x hx; simp at hx

theorem writtenB_byte {r : List Nat} (a : Nat) (hr : ∀ x ∈ r, x < 256) : ∀ x ∈ writtenB r a, x < 256 := by
  intro x hx
  unfold writtenB at hx
  rcases List.mem_append.1 hx with hx | hx
  · have := List.eq_of_mem_replicate hx; omega
  · exact partsB_byte r.length r _ _ (Nat.le_refl _) hr x hx

/-- how long parts are -/
theorem partsB_len0 (n : Nat) : ∀ (r : List Nat) (a : Nat) (begins : Bool), r.length ≤ n → roomN a = 128 → 121 * (partsB a begins r).length ≤ 128 * r.length + 847 := by
  induction n with
  | zero =>
    intro r a begins hn ha
    rw [partsB_last begins (by omega), partB_length]; omega
  | succ n ih =>
    intro r a begins hn ha
    by_cases h : r.length ≤ roomN a - 7
    · rw [partsB_last begins h, partB_length]; omega
    · rw [partsB_more begins h (by omega), List.length_append, partB_length, List.length_take]
      have := ih (r.drop (roomN a - 7)) (a + roomN a) false (by simp; omega) (roomN_next a)
      simp only [List.length_drop] at this
      omega
theorem partsB_len (r : List Nat) (a : Nat) (begins : Bool) (ha : 7 < roomN a) : 121 * (partsB a begins r).length ≤ 128 * r.length + 1694 := by
  by_cases h : r.length ≤ roomN a - 7
  · rw [partsB_last begins h, partB_length]; omega
  · rw [partsB_more begins h ha, List.length_append, partB_length, List.length_take]
    have := partsB_len0 _ (r.drop (roomN a - 7)) (a + roomN a) false (Nat.le_refl _) (roomN_next a)
    simp only [List.length_drop] at this
    omega
theorem partsB_ge (n : Nat) : ∀ (r : List Nat) (a : Nat) (begins : Bool), r.length ≤ n → 7 < roomN a → 7 + r.length ≤ (partsB a begins r).length := by
  induction n with
  | zero =>
    intro r a begins hn ha
    rw [partsB_last begins (by omega), partB_length]; omega
  | succ n ih =>
    intro r a begins hn ha
    by_cases h : r.length ≤ roomN a - 7
    · rw [partsB_last begins h, partB_length]; omega
    · rw [partsB_more begins h ha, List.length_append, partB_length, List.length_take]
      have := ih (r.drop (roomN a - 7)) (a + roomN a) false (by simp; omega) (by rw [roomN_next]; omega)
      simp only [List.length_drop] at this
      omega
theorem writtenB_len (r : List Nat) (a : Nat) : 121 * (writtenB r a).length ≤ 128 * r.length + 2541 ∧ 7 + r.length ≤ (writtenB r a).length := by
  unfold writtenB
  rw [List.length_append, List.length_replicate]
  have h1 := partsB_len r (startN a) true (startN_room a)
  have h2 := startN_ge a
  have h3 := partsB_ge _ r (startN a) true (Nat.le_refl _) (startN_room a)
  omega

/-- parts hang on the place within the block alone -/
theorem partsB_same (n : Nat) : ∀ (r : List Nat) (a b : Nat) (begins : Bool), r.length ≤ n → roomN a = roomN b → partsB a begins r = partsB b begins r := by
  induction n with
  | zero =>
    intro r a b begins hn hab
    rw [partsB_last begins (by omega), partsB_last begins (by omega)]
  | succ n ih =>
    intro r a b begins hn hab
    by_cases h : r.length ≤ roomN a - 7
    · rw [partsB_last begins h, partsB_last begins (by omega)]
    · by_cases ha : 7 < roomN a
      · rw [partsB_more begins h ha, partsB_more begins (by omega) (by omega), hab,
          ih (r.drop (roomN b - 7)) (a + roomN b) (b + roomN b) false (by simp; omega) (by rw [roomN_next b, ← hab, roomN_next a])]
      · rw [partsB, if_neg h, if_pos (by omega), partsB, if_neg (by omega), if_pos (by omega)]
theorem roomN_128 {a b : Nat} (h : a % 128 = b % 128) : roomN a = roomN b := by unfold roomN; rw [h]
theorem writtenB_same (r : List Nat) {a b : Nat} (h : a % 128 = b % 128) : writtenB r a = writtenB r b := by
  have h1 := roomN_128 h
  have h2 : startN a - a = startN b - b := by unfold startN; rw [h1]; split <;> omega
  have h3 : roomN (startN a) = roomN (startN b) := by
    apply roomN_128
    have := startN_ge a
    have := startN_ge b
    omega
  unfold writtenB
  rw [h2, partsB_same _ r _ _ true (Nat.le_refl _) h3]

/-! ### Reading -/
/-- what four bytes tell -/
def four (b : List Nat) (a : Nat) : Nat := b.getD a 0 * 16777216 + b.getD (a + 1) 0 * 65536 + b.getD (a + 2) 0 * 256 + b.getD (a + 3) 0
/-- how many bytes the part at a place says to have -/
def sizeAt (b : List Nat) (a : Nat) : Nat := b.getD (a + 4) 0 * 256 + b.getD (a + 5) 0
def dataAt (b : List Nat) (a : Nat) : List Nat := (b.drop (a + 7)).take (sizeAt b a)
/-- is there a part? -/
def partOk (b : List Nat) (a : Nat) : Bool := decide (a + 7 ≤ b.length) && (decide (7 + sizeAt b a ≤ roomN a) && (decide (a + 7 + sizeAt b a ≤ b.length) && decide (four b a = crcN (b.getD (a + 6) 0) (dataAt b a))))

structure PartM where
  stop : Nat
  kind : Nat
  data : List Nat

theorem partOk_len {b : List Nat} {a : Nat} (h : partOk b a = true) : a + 7 + sizeAt b a ≤ b.length ∧ (dataAt b a).length = sizeAt b a := by
  unfold partOk at h
  simp only [Bool.and_eq_true, decide_eq_true_eq] at h
  refine ⟨h.2.2.1, ?_⟩
  unfold dataAt
  rw [List.length_take, List.length_drop]
  have := h.2.2.1
  omega

/-- all parts from a place on -/
def partsFrom (b : List Nat) (a : Nat) : List PartM :=
  if h : partOk b a = true then ⟨a + 7 + sizeAt b a, b.getD (a + 6) 0, dataAt b a⟩ :: partsFrom b (startN (a + 7 + sizeAt b a)) else []
termination_by b.length - a
decreasing_by
  have h1 := (partOk_len h).1
  have h2 := startN_ge (a + 7 + sizeAt b a)
  omega

theorem partsFrom_no {b : List Nat} {a : Nat} (h : partOk b a = false) : partsFrom b a = [] := by rw [partsFrom, dif_neg (by rw [h]; simp)]
theorem partsFrom_yes {b : List Nat} {a : Nat} (h : partOk b a = true) : partsFrom b a = ⟨a + 7 + sizeAt b a, b.getD (a + 6) 0, dataAt b a⟩ :: partsFrom b (startN (a + 7 + sizeAt b a)) := by
  rw [partsFrom, dif_pos h]

/-- where reading is -/
structure ReadM where
  recs : List (List Nat)
  stop : Nat
  cur : List Nat
  begun : Bool

/-- does a part go on as it should? -/
def fits (begun : Bool) (k : Nat) : Bool := (decide (k = 1) || decide (k = 2)) && !begun || (decide (k = 3) || decide (k = 4)) && begun
def ReadM.put (s : ReadM) (p : PartM) : ReadM :=
  if p.kind = 2 ∨ p.kind = 3 then ⟨s.recs, s.stop, s.cur ++ p.data, true⟩ else ⟨s.recs ++ [s.cur ++ p.data], p.stop, [], false⟩
def readL : ReadM → List PartM → ReadM
  | s, [] => s
  | s, p :: l => if fits s.begun p.kind then readL (s.put p) l else s
def readM (b : List Nat) : ReadM := readL ⟨[], 0, [], false⟩ (partsFrom b 0)

theorem getD_at (p l q : List Nat) (j : Nat) (h : j < l.length) : (p ++ l ++ q).getD (p.length + j) 0 = l.getD j 0 := by
  simp only [List.getD]
  rw [List.append_assoc, List.getElem?_append_right (by omega), List.getElem?_append_left (by omega)]
  congr 2; omega

/-- a part that stands there is found -/
theorem part_found (p q : List Nat) (k : Nat) (d : List Nat) (hd : d.length < 65536) (hr : 7 + d.length ≤ roomN p.length) :
    partOk (p ++ partB k d ++ q) p.length = true ∧ sizeAt (p ++ partB k d ++ q) p.length = d.length ∧ (p ++ partB k d ++ q).getD (p.length + 6) 0 = k ∧ dataAt (p ++ partB k d ++ q) p.length = d := by
  have hl := partB_length k d
  have g : ∀ j, j < 7 → (p ++ partB k d ++ q).getD (p.length + j) 0 = (headB k d).getD j 0 := fun j hj => by
    rw [getD_at p (partB k d) q j (by omega)]
    simp only [List.getD, partB]
    rw [List.getElem?_append_left (by rw [headB_length]; exact hj)]
  have g0 := g 0 (by omega)
  have g1 := g 1 (by omega)
  have g2 := g 2 (by omega)
  have g3 := g 3 (by omega)
  have g4 := g 4 (by omega)
  have g5 := g 5 (by omega)
  have g6 := g 6 (by omega)
  simp only [headB, List.getD_cons_succ, List.getD_cons_zero, Nat.add_zero] at g0 g1 g2 g3 g4 g5 g6
  have hs : sizeAt (p ++ partB k d ++ q) p.length = d.length := by
    unfold sizeAt
    rw [g4, g5]; omega
  have hdat : dataAt (p ++ partB k d ++ q) p.length = d := by
    unfold dataAt
    rw [hs]
    have : (p ++ partB k d ++ q) = (p ++ headB k d) ++ (d ++ q) := by unfold partB; simp
    rw [this, List.drop_left' (by simp [headB_length]), List.take_left' rfl]
  have hlen : (p ++ partB k d ++ q).length = p.length + (7 + d.length) + q.length := by rw [List.length_append, List.length_append, hl]
  have hf : four (p ++ partB k d ++ q) p.length = crcN k d := by
    unfold four
    rw [g0, g1, g2, g3]
    have := crcN_lt k d
    omega
  refine ⟨?_, hs, g6, hdat⟩
  unfold partOk
  rw [hs, hdat, hf, g6, hlen]
  simp; omega

/-- a part whose bytes are not all there is not found -/
theorem part_cut (p l : List Nat) (k : Nat) (d : List Nat) (hd : d.length < 65536) (n : Nat) (hn : n < 7 + d.length) (hl : l = (partB k d).take n) :
    partOk (p ++ l) p.length = false := by
  subst hl
  have hpl := partB_length k d
  have hlen : (p ++ (partB k d).take n).length = p.length + n := by rw [List.length_append, List.length_take, hpl]; omega
  by_cases h7 : n < 7
  · unfold partOk
    rw [hlen]
    have : decide (p.length + 7 ≤ p.length + n) = false := by simp; omega
    rw [this]; rfl
  · have g : ∀ j, j < 7 → (p ++ (partB k d).take n).getD (p.length + j) 0 = (headB k d).getD j 0 := fun j hj => by
      have := getD_at p ((partB k d).take n) [] j (by rw [List.length_take]; omega)
      rw [List.append_nil] at this
      rw [this]
      simp only [List.getD, partB]
      rw [List.getElem?_take_of_lt (by omega), List.getElem?_append_left (by rw [headB_length]; exact hj)]
    have g4 := g 4 (by omega)
    have g5 := g 5 (by omega)
    simp only [headB, List.getD_cons_succ, List.getD_cons_zero] at g4 g5
    have hs : sizeAt (p ++ (partB k d).take n) p.length = d.length := by
      unfold sizeAt
      rw [g4, g5]; omega
    unfold partOk
    rw [hs, hlen]
    have : decide (p.length + 7 + d.length ≤ p.length + n) = false := by simp; omega
    rw [this]; simp

theorem fits_kind (begins ends : Bool) : fits (!begins) (kindN begins ends) = true := by cases begins <;> cases ends <;> rfl
theorem put_last (s : ReadM) (begins : Bool) (e : Nat) (d : List Nat) : s.put ⟨e, kindN begins true, d⟩ = ⟨s.recs ++ [s.cur ++ d], e, [], false⟩ := by
  unfold ReadM.put; rw [if_neg (by cases begins <;> simp [kindN])]
theorem put_more (s : ReadM) (begins : Bool) (e : Nat) (d : List Nat) : s.put ⟨e, kindN begins false, d⟩ = ⟨s.recs, s.stop, s.cur ++ d, true⟩ := by
  unfold ReadM.put; rw [if_pos (by cases begins <;> simp [kindN])]

/-- a record that stands there is read -/
theorem record_read (n : Nat) : ∀ (r p q : List Nat) (begins : Bool) (s : ReadM), r.length ≤ n → 7 < roomN p.length → s.begun = !begins →
    readL s (partsFrom (p ++ partsB p.length begins r ++ q) p.length) =
      readL ⟨s.recs ++ [s.cur ++ r], p.length + (partsB p.length begins r).length, [], false⟩ (partsFrom (p ++ partsB p.length begins r ++ q) (startN (p.length + (partsB p.length begins r).length))) := by
  induction n with
  | zero =>
    intro r p q begins s hn hp hs
    have hb := roomN_pos p.length
    have h : r.length ≤ roomN p.length - 7 := by omega
    rw [partsB_last begins h]
    obtain ⟨h1, h2, h3, h4⟩ := part_found p q (kindN begins true) r (by omega) (by omega)
    conv => lhs; rw [partsFrom_yes h1]
    rw [h2, h3, h4, partB_length, readL, hs, if_pos (fits_kind _ _), put_last, ← Nat.add_assoc]
  | succ n ih =>
    intro r p q begins s hn hp hs
    have hb := roomN_pos p.length
    by_cases h : r.length ≤ roomN p.length - 7
    · rw [partsB_last begins h]
      obtain ⟨h1, h2, h3, h4⟩ := part_found p q (kindN begins true) r (by omega) (by omega)
      conv => lhs; rw [partsFrom_yes h1]
      rw [h2, h3, h4, partB_length, readL, hs, if_pos (fits_kind _ _), put_last, ← Nat.add_assoc]
    · rw [partsB_more begins h hp]
      have ht : (r.take (roomN p.length - 7)).length = roomN p.length - 7 := by rw [List.length_take]; omega
      obtain ⟨h1, h2, h3, h4⟩ := part_found p (partsB (p.length + roomN p.length) false (r.drop (roomN p.length - 7)) ++ q) (kindN begins false) (r.take (roomN p.length - 7)) (by omega) (by omega)
      have hx : p ++ (partB (kindN begins false) (r.take (roomN p.length - 7)) ++ partsB (p.length + roomN p.length) false (r.drop (roomN p.length - 7))) ++ q =
          p ++ partB (kindN begins false) (r.take (roomN p.length - 7)) ++ (partsB (p.length + roomN p.length) false (r.drop (roomN p.length - 7)) ++ q) := by simp
      rw [hx]
      conv => lhs; rw [partsFrom_yes h1]
      rw [h2, h3, h4, ht, readL, hs, if_pos (fits_kind _ _), put_more]
      have hpl : (p ++ partB (kindN begins false) (r.take (roomN p.length - 7))).length = p.length + roomN p.length := by rw [List.length_append, partB_length, ht]; omega
      have ih' := ih (r.drop (roomN p.length - 7)) (p ++ partB (kindN begins false) (r.take (roomN p.length - 7))) q false ⟨s.recs, s.stop, s.cur ++ r.take (roomN p.length - 7), true⟩ (by simp; omega) (by rw [hpl, roomN_next]; omega) rfl
      rw [hpl] at ih'
      rw [← List.append_assoc (p ++ _), show p.length + 7 + (roomN p.length - 7) = p.length + roomN p.length by omega, startN_same (by rw [roomN_next]; omega), ih']
      rw [List.length_append, partB_length, ht]
      dsimp only
      rw [List.append_assoc s.cur, List.take_append_drop, show p.length + roomN p.length + (partsB (p.length + roomN p.length) false (r.drop (roomN p.length - 7))).length = p.length + (7 + (roomN p.length - 7) + (partsB (p.length + roomN p.length) false (r.drop (roomN p.length - 7))).length) by omega]

/-- a record of which bytes are missing at the end is not read -/
theorem record_cut (n : Nat) : ∀ (r p : List Nat) (begins : Bool) (s : ReadM) (k : Nat), r.length ≤ n → 7 < roomN p.length → s.begun = !begins → k < (partsB p.length begins r).length →
    (readL s (partsFrom (p ++ (partsB p.length begins r).take k) p.length)).recs = s.recs ∧ (readL s (partsFrom (p ++ (partsB p.length begins r).take k) p.length)).stop = s.stop := by
  induction n with
  | zero =>
    intro r p begins s k hn hp hs hk
    have hb := roomN_pos p.length
    have h : r.length ≤ roomN p.length - 7 := by omega
    rw [partsB_last begins h] at hk ⊢
    rw [partB_length] at hk
    rw [partsFrom_no (part_cut p _ _ _ (by omega) k hk rfl)]
    exact ⟨rfl, rfl⟩
  | succ n ih =>
    intro r p begins s k hn hp hs hk
    have hb := roomN_pos p.length
    by_cases h : r.length ≤ roomN p.length - 7
    · rw [partsB_last begins h] at hk ⊢
      rw [partB_length] at hk
      rw [partsFrom_no (part_cut p _ _ _ (by omega) k hk rfl)]
      exact ⟨rfl, rfl⟩
    · rw [partsB_more begins h hp] at hk ⊢
      have ht : (r.take (roomN p.length - 7)).length = roomN p.length - 7 := by rw [List.length_take]; omega
      have hpb : (partB (kindN begins false) (r.take (roomN p.length - 7))).length = roomN p.length := by rw [partB_length, ht]; omega
      rw [List.length_append, hpb] at hk
      by_cases hc : k < roomN p.length
      · rw [List.take_append_of_le_length (by rw [hpb]; omega)]
        rw [partsFrom_no (part_cut p _ _ _ (by omega) k (by rw [ht]; omega) rfl)]
        exact ⟨rfl, rfl⟩
      · have hx : (partB (kindN begins false) (r.take (roomN p.length - 7)) ++ partsB (p.length + roomN p.length) false (r.drop (roomN p.length - 7))).take k =
            partB (kindN begins false) (r.take (roomN p.length - 7)) ++ (partsB (p.length + roomN p.length) false (r.drop (roomN p.length - 7))).take (k - roomN p.length) := by
          rw [List.take_append, hpb, List.take_of_length_le (by rw [hpb]; omega)]
        rw [hx, ← List.append_assoc]
        obtain ⟨h1, h2, h3, h4⟩ := part_found p ((partsB (p.length + roomN p.length) false (r.drop (roomN p.length - 7))).take (k - roomN p.length)) (kindN begins false) (r.take (roomN p.length - 7)) (by omega) (by omega)
        rw [partsFrom_yes h1, h2, h3, h4, ht, readL, hs, if_pos (fits_kind _ _), put_more]
        have hpl : (p ++ partB (kindN begins false) (r.take (roomN p.length - 7))).length = p.length + roomN p.length := by rw [List.length_append, hpb]
        have ih' := ih (r.drop (roomN p.length - 7)) (p ++ partB (kindN begins false) (r.take (roomN p.length - 7))) false ⟨s.recs, s.stop, s.cur ++ r.take (roomN p.length - 7), true⟩ (k - roomN p.length) (by simp; omega) (by rw [hpl, roomN_next]; omega) rfl (by rw [hpl]; omega)
        rw [hpl] at ih'
        rw [show p.length + 7 + (roomN p.length - 7) = p.length + roomN p.length by omega, startN_same (by rw [roomN_next]; omega)]
        exact ih'

/-! ### Records, one behind the other -/
def allB : Nat → List (List Nat) → List Nat
  | _, [] => []
  | a, r :: l => writtenB r a ++ allB (a + (writtenB r a).length) l

theorem allB_append (l m : List (List Nat)) : ∀ a, allB a (l ++ m) = allB a l ++ allB (a + (allB a l).length) m := by
  induction l with
  | nil => intro a; simp [allB]
  | cons r l ih =>
    intro a
    show writtenB r a ++ allB _ (l ++ m) = (writtenB r a ++ allB _ l) ++ _
    have hl : (allB a (r :: l)).length = (writtenB r a).length + (allB (a + (writtenB r a).length) l).length := List.length_append
    rw [ih, List.append_assoc, hl, ← Nat.add_assoc]
theorem allB_snoc (a : Nat) (l : List (List Nat)) (r : List Nat) : allB a (l ++ [r]) = allB a l ++ writtenB r (a + (allB a l).length) := by
  rw [allB_append]; simp [allB]
theorem allB_same (l : List (List Nat)) : ∀ {a b : Nat}, a % 128 = b % 128 → allB a l = allB b l := by
  induction l with
  | nil => intro a b _; rfl
  | cons r l ih =>
    intro a b h
    show writtenB r a ++ allB _ l = writtenB r b ++ allB _ l
    rw [writtenB_same r h, ih (a := a + (writtenB r b).length) (b := b + (writtenB r b).length) (by omega)]
theorem allB_byte (l : List (List Nat)) : ∀ a, (∀ r ∈ l, ∀ x ∈ r, x < 256) → ∀ x ∈ allB a l, x < 256 := by
  induction l with
  | nil => intro a _ x hx; simp [allB] at hx
  | cons r l ih =>
    intro a h x hx
    rcases List.mem_append.1 hx with hx | hx
    · exact writtenB_byte a (h r (by simp)) x hx
    · exact ih _ (fun s hs => h s (by simp [hs])) x hx
/-- how many bytes records have -/
def bytesOf (l : List (List Nat)) : Nat := (l.map List.length).sum
theorem allB_len (l : List (List Nat)) : ∀ a, 121 * (allB a l).length ≤ 128 * bytesOf l + 2541 * l.length := by
  induction l with
  | nil => intro a; simp [allB, bytesOf]
  | cons r l ih =>
    intro a
    have h1 := (writtenB_len r a).1
    have h2 := ih (a + (writtenB r a).length)
    show 121 * (writtenB r a ++ allB _ l).length ≤ 128 * bytesOf (r :: l) + 2541 * (r :: l).length
    rw [List.length_append]
    unfold bytesOf at h2 ⊢
    simp only [List.map_cons, List.sum_cons, List.length_cons]
    omega

theorem fill_same (p q : List Nat) (r : List Nat) : p ++ writtenB r p.length ++ q = (p ++ List.replicate (startN p.length - p.length) 0) ++ partsB (p ++ List.replicate (startN p.length - p.length) 0).length true r ++ q ∧ (p ++ List.replicate (startN p.length - p.length) 0).length = startN p.length := by
  have h : (p ++ List.replicate (startN p.length - p.length) 0).length = startN p.length := by
    rw [List.length_append, List.length_replicate]
    have := startN_ge p.length
    omega
  refine ⟨?_, h⟩
  rw [h]
  unfold writtenB
  simp

/-- records that stand there are read -/
theorem recs_read (l : List (List Nat)) : ∀ (p q : List Nat) (s : ReadM), s.begun = false → s.cur = [] →
    ∃ e, (l ≠ [] → e = p.length + (allB p.length l).length) ∧ (l = [] → e = s.stop) ∧
    readL s (partsFrom (p ++ allB p.length l ++ q) (startN p.length)) = readL ⟨s.recs ++ l, e, [], false⟩ (partsFrom (p ++ allB p.length l ++ q) (startN (p.length + (allB p.length l).length))) := by
  induction l with
  | nil =>
    intro p q s h1 h2
    refine ⟨s.stop, fun h => absurd rfl h, fun _ => rfl, ?_⟩
    obtain ⟨recs, stop, cur, begun⟩ := s
    simp only at h1 h2
    subst h1 h2
    simp [allB]
  | cons r l ih =>
    intro p q s h1 h2
    obtain ⟨hf, hfl⟩ := fill_same p (allB (p.length + (writtenB r p.length).length) l ++ q) r
    have hr := record_read r.length r (p ++ List.replicate (startN p.length - p.length) 0) (allB (p.length + (writtenB r p.length).length) l ++ q) true s (Nat.le_refl _) (by rw [hfl]; exact startN_room _) (by rw [h1]; rfl)
    rw [← hf, hfl, h2, List.nil_append] at hr
    have hwl : (writtenB r p.length).length = startN p.length - p.length + (partsB (startN p.length) true r).length := by unfold writtenB; rw [List.length_append, List.length_replicate]
    have hsg := startN_ge p.length
    rw [show startN p.length + (partsB (startN p.length) true r).length = p.length + (writtenB r p.length).length by omega] at hr
    have hpw : (p ++ writtenB r p.length).length = p.length + (writtenB r p.length).length := List.length_append
    obtain ⟨e, he1, he2, he⟩ := ih (p ++ writtenB r p.length) q ⟨s.recs ++ [r], p.length + (writtenB r p.length).length, [], false⟩ rfl rfl
    rw [hpw] at he he1
    have hall : p ++ allB p.length (r :: l) ++ q = p ++ writtenB r p.length ++ (allB (p.length + (writtenB r p.length).length) l ++ q) := by
      show p ++ (writtenB r p.length ++ allB _ l) ++ q = _
      simp
    have hlen : (allB p.length (r :: l)).length = (writtenB r p.length).length + (allB (p.length + (writtenB r p.length).length) l).length := List.length_append
    refine ⟨e, fun _ => ?_, (fun h => absurd h (by simp)), ?_⟩
    · rw [hlen]
      by_cases hl : l = []
      · subst hl; rw [he2 rfl]; simp [allB]
      · rw [he1 hl]; omega
    · rw [hall, hr, ← List.append_assoc (p ++ writtenB r p.length), he, hlen, ← Nat.add_assoc]
      simp

theorem part_end {b : List Nat} {a : Nat} (h : b.length < a + 7) : partOk b a = false := by
  unfold partOk
  have : decide (a + 7 ≤ b.length) = false := by simp; omega
  rw [this]; rfl

/-- a journal's records are read, and where it ends -/
theorem read_all (l : List (List Nat)) : (readM (allB 0 l)).recs = l ∧ (readM (allB 0 l)).stop = (allB 0 l).length := by
  obtain ⟨e, h1, h2, h⟩ := recs_read l [] [] ⟨[], 0, [], false⟩ rfl rfl
  have hs : startN ([] : List Nat).length = 0 := rfl
  rw [hs] at h
  simp only [List.nil_append, List.append_nil, List.length_nil, Nat.zero_add] at h h1
  have hsg := startN_ge (allB 0 l).length
  rw [partsFrom_no (part_end (b := allB 0 l) (a := startN (allB 0 l).length) (by omega))] at h
  unfold readM
  rw [h, readL]
  refine ⟨rfl, ?_⟩
  by_cases hl : l = []
  · subst hl; rw [h2 rfl]; rfl
  · exact h1 hl

/-- of bytes that end within a record, those ahead of it are read -/
theorem read_cut (l : List (List Nat)) (r : List Nat) (k : Nat) (hk : k < (writtenB r (allB 0 l).length).length) : (readM (allB 0 l ++ (writtenB r (allB 0 l).length).take k)).recs = l := by
  obtain ⟨e, h1, h2, h⟩ := recs_read l [] ((writtenB r (allB 0 l).length).take k) ⟨[], 0, [], false⟩ rfl rfl
  have hs : startN ([] : List Nat).length = 0 := rfl
  rw [hs] at h
  simp only [List.nil_append, List.length_nil, Nat.zero_add] at h
  unfold readM
  rw [h]
  generalize hp : allB 0 l = p at hk ⊢
  have hsg := startN_ge p.length
  by_cases hf : k ≤ startN p.length - p.length
  · rw [partsFrom_no (part_end (by rw [List.length_append, List.length_take]; omega))]
    rfl
  · have hx : p ++ (writtenB r p.length).take k = (p ++ List.replicate (startN p.length - p.length) 0) ++ (partsB (p ++ List.replicate (startN p.length - p.length) 0).length true r).take (k - (startN p.length - p.length)) := by
      rw [(fill_same p [] r).2]
      unfold writtenB
      rw [List.take_append, List.length_replicate, List.take_of_length_le (by rw [List.length_replicate]; omega), List.append_assoc]
    have hfl := (fill_same p [] r).2
    have hwl : (writtenB r p.length).length = startN p.length - p.length + (partsB (startN p.length) true r).length := by unfold writtenB; rw [List.length_append, List.length_replicate]
    have := record_cut r.length r (p ++ List.replicate (startN p.length - p.length) 0) true ⟨l, e, [], false⟩ (k - (startN p.length - p.length)) (Nat.le_refl _) (by rw [hfl]; exact startN_room _) rfl (by rw [hfl]; omega)
    rw [← hx, hfl] at this
    exact this.1

/-- what is kept of a journal's bytes: those records of which all is -/
theorem read_take (l : List (List Nat)) (n i : Nat) (hi : i ≤ l.length) (h1 : (allB 0 (l.take i)).length ≤ n) (h2 : i < l.length → n < (allB 0 (l.take (i + 1))).length) : (readM ((allB 0 l).take n)).recs = l.take i := by
  by_cases hl : i < l.length
  · have hs : l.take (i + 1) = l.take i ++ [l[i]] := by rw [List.take_add_one]; simp [hl]
    have hn := h2 hl
    have e1 : allB 0 l = allB 0 (l.take (i + 1)) ++ allB (0 + (allB 0 (l.take (i + 1))).length) (l.drop (i + 1)) := by rw [← allB_append, List.take_append_drop]
    rw [hs, allB_snoc, Nat.zero_add] at hn e1
    rw [List.length_append] at hn
    rw [e1, List.take_append_of_le_length (by rw [List.length_append]; omega), List.take_append, List.take_of_length_le h1]
    exact read_cut (l.take i) l[i] _ (by omega)
  · rw [List.take_of_length_le (by omega)] at h1
    rw [List.take_of_length_le h1, List.take_of_length_le (by omega)]
    exact (read_all l).1

/-- with its first block missing, a journal whose first record goes on tells none -/
theorem read_headless (r : List Nat) (l : List (List Nat)) (h : 121 < r.length) : (readM ((allB 0 (r :: l)).drop 128)).recs = [] ∧ 128 < (allB 0 (r :: l)).length := by
  have hst : startN 0 = 0 := rfl
  have hrm : roomN 0 = 128 := rfl
  have hw : writtenB r 0 = partB 2 (r.take 121) ++ partsB 128 false (r.drop 121) := by
    unfold writtenB
    rw [hst, partsB_more true (by rw [hrm]; omega) (by rw [hrm]; omega), hrm]
    rfl
  have hpl : (partB 2 (r.take 121)).length = 128 := by rw [partB_length, List.length_take]; omega
  have he : allB 0 (r :: l) = partB 2 (r.take 121) ++ (partsB 128 false (r.drop 121) ++ allB (0 + (writtenB r 0).length) l) := by
    show writtenB r 0 ++ allB _ l = _
    conv => lhs; lhs; rw [hw]
    rw [List.append_assoc]
  have hge := partsB_ge _ (r.drop 121) 128 false (Nat.le_refl _) (by rw [show roomN 128 = 128 from rfl]; omega)
  refine ⟨?_, by rw [he, List.length_append, List.length_append, hpl]; omega⟩
  rw [he, List.drop_left' hpl, partsB_same _ (r.drop 121) 128 0 false (Nat.le_refl _) rfl]
  unfold readM
  have hz : roomN 0 = 128 := rfl
  by_cases hc : (r.drop 121).length ≤ roomN 0 - 7
  · rw [partsB_last false hc]
    obtain ⟨a1, a2, a3, a4⟩ := part_found [] (allB (0 + (writtenB r 0).length) l) (kindN false true) (r.drop 121) (by omega) (by show _ ≤ roomN 0; omega)
    rw [List.nil_append, List.length_nil] at a1 a2 a3 a4
    rw [partsFrom_yes a1, a3, readL, if_neg (by show ¬ fits false 4 = true; decide)]
  · rw [partsB_more false hc (by omega), List.append_assoc]
    obtain ⟨a1, a2, a3, a4⟩ := part_found [] (partsB (0 + roomN 0) false ((r.drop 121).drop (roomN 0 - 7)) ++ allB (0 + (writtenB r 0).length) l) (kindN false false) ((r.drop 121).take (roomN 0 - 7)) (by rw [List.length_take]; omega) (by show _ ≤ roomN 0; rw [List.length_take]; omega)
    rw [List.nil_append, List.length_nil] at a1 a2 a3 a4
    rw [partsFrom_yes a1, a3, readL, if_neg (by show ¬ fits false 3 = true; decide)]
end Go.Proofs.Ytkmanpmaflpgoaa
