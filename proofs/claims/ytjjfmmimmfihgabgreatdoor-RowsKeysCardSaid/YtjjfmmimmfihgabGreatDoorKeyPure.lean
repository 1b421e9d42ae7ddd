/-
  WHAT IS PROVED: keys stand as their values do: plain lists of bytes; no program is walked here.
-/
import Derived.Test.YtjjfmmimmfihgabGreatDoorRowE
namespace Go.Proofs.YtjjfmmimmfihgabGreatDoor
open Go.RowKit Go.Lib
set_option linter.unusedVariables false

/-- how two lists of bytes stand -/
def cmpN : List Nat → List Nat → Int
  | [], [] => 0
  | [], _ :: _ => -1
  | _ :: _, [] => 1
  | a :: x, b :: y => if a < b then -1 else if b < a then 1 else cmpN x y
theorem cmpN_same : ∀ (p x y : List Nat), cmpN (p ++ x) (p ++ y) = cmpN x y
  | [], _, _ => rfl
  | a :: p, x, y => by
    rw [List.cons_append, List.cons_append, cmpN, if_neg (by omega), if_neg (by omega)]
    exact cmpN_same p x y
/-- they part within both -/
def Parted (p q : List Nat) (c : Int) : Prop := ∀ x y, cmpN (p ++ x) (q ++ y) = c
theorem parted_head {a b : Nat} {p q : List Nat} (h : a < b) : Parted (a :: p) (b :: q) (-1) := fun x y => by
  rw [List.cons_append, List.cons_append, cmpN, if_pos h]
theorem parted_head' {a b : Nat} {p q : List Nat} (h : b < a) : Parted (a :: p) (b :: q) 1 := fun x y => by
  rw [List.cons_append, List.cons_append, cmpN, if_neg (by omega), if_pos h]
theorem parted_cons {a : Nat} {p q : List Nat} {c : Int} (h : Parted p q c) : Parted (a :: p) (a :: q) c := fun x y => by
  rw [List.cons_append, List.cons_append, cmpN, if_neg (by omega), if_neg (by omega)]
  exact h x y
theorem parted_more {p q r s : List Nat} {c : Int} (h : Parted p q c) : Parted (p ++ r) (q ++ s) c := fun x y => by
  rw [List.append_assoc, List.append_assoc]
  exact h _ _
theorem parted_behind {p q : List Nat} {c : Int} (r : List Nat) (h : Parted p q c) : Parted (r ++ p) (r ++ q) c := fun x y => by
  rw [List.append_assoc, List.append_assoc, cmpN_same]
  exact h _ _
/-- a number's bytes, the greatest place first -/
def beB : Nat → Nat → List Nat
  | 0, _ => []
  | k + 1, m => m / 256 ^ k % 256 :: beB k m
theorem beB_mod (k : Nat) : ∀ (d m : Nat), beB k (d * 256 ^ k + m) = beB k m := by
  induction k with
  | zero => intros; rfl
  | succ k ih =>
    intro d m
    have e : d * 256 ^ (k + 1) + m = d * 256 * 256 ^ k + m := by rw [Nat.pow_succ, Nat.mul_comm (256 ^ k) 256, Nat.mul_assoc]
    rw [beB, beB, e, ih (d * 256) m]
    congr 1
    rw [Nat.add_comm, Nat.add_mul_div_right _ _ (Nat.pow_pos (by omega))]
    omega
theorem beB_parted (k : Nat) : ∀ (m n : Nat), m < 256 ^ k → n < 256 ^ k → m < n → Parted (beB k m) (beB k n) (-1) := by
  induction k with
  | zero => intro m n h1 h2 h3; simp at h1 h2; omega
  | succ k ih =>
    intro m n h1 h2 h3
    have hp : 0 < 256 ^ k := Nat.pow_pos (by omega)
    rw [Nat.pow_succ, Nat.mul_comm] at h1 h2
    have d1 : m / 256 ^ k < 256 := Nat.div_lt_of_lt_mul (by rw [Nat.mul_comm]; exact h1)
    have d2 : n / 256 ^ k < 256 := Nat.div_lt_of_lt_mul (by rw [Nat.mul_comm]; exact h2)
    have em := Nat.div_add_mod m (256 ^ k)
    have en := Nat.div_add_mod n (256 ^ k)
    have rm := Nat.mod_lt m hp
    have rn := Nat.mod_lt n hp
    have hle : m / 256 ^ k ≤ n / 256 ^ k := Nat.div_le_div_right (by omega)
    rw [beB, beB, Nat.mod_eq_of_lt d1, Nat.mod_eq_of_lt d2]
    rcases Nat.lt_or_eq_of_le hle with hlt | heq
    · exact parted_head hlt
    · rw [heq]
      refine parted_cons ?_
      have e1 : beB k m = beB k (m % 256 ^ k) := by
        conv => lhs; rw [← em, Nat.mul_comm]
        exact beB_mod k _ _
      have e2 : beB k n = beB k (n % 256 ^ k) := by
        conv => lhs; rw [← en, Nat.mul_comm]
        exact beB_mod k _ _
      rw [e1, e2]
      refine ih _ _ rm rn ?_
      rw [heq] at em
      omega
theorem parted_swap {p q : List Nat} (h : Parted p q (-1)) : Parted q p 1 := by
  have hs : ∀ x y : List Nat, cmpN x y = -1 → cmpN y x = 1 := by
    intro x
    induction x with
    | nil => intro y h; cases y <;> simp [cmpN] at h ⊢
    | cons a r ih =>
      intro y h
      cases y with
      | nil => simp [cmpN] at h
      | cons b s =>
        simp only [cmpN] at h ⊢
        by_cases h1 : a < b
        · rw [if_neg (by omega), if_pos h1]
        · rw [if_neg h1] at h
          by_cases h2 : b < a
          · rw [if_pos h2] at h; omega
          · rw [if_neg h2] at h
            rw [if_neg h2, if_neg h1]
            exact ih s h
  exact fun x y => hs _ _ (h y x)
theorem rise_parted {i j : Int} (hi : -9223372036854775808 ≤ i ∧ i ≤ 9223372036854775807) (hj : -9223372036854775808 ≤ j ∧ j ≤ 9223372036854775807) (h : i < j) : Parted (riseB i) (riseB j) (-1) := by
  have e : ∀ i : Int, riseB i = beB 8 (i + 9223372036854775808).toNat := fun i => rfl
  rw [e, e]
  exact beB_parted 8 _ _ (by omega) (by omega) (by omega)
/-- a text's bytes in a key, with its end -/
def escN : List UInt8 → List Nat
  | [] => [0, 0]
  | c :: l => if c = 0 then 0 :: 255 :: escN l else c.toNat :: escN l
theorem escN_cons (c : UInt8) (l : List UInt8) : escN (c :: l) = if c = 0 then 0 :: 255 :: escN l else c.toNat :: escN l := rfl
theorem escN_eq (s : ByteArray) : strN (escS s) ++ [0, 0] = escN s.data.toList := by
  unfold strN escS
  have key : ∀ l : List UInt8, (twice 0 [0, 255] l).map UInt8.toNat ++ [0, 0] = escN l := by
    intro l
    induction l with
    | nil => rfl
    | cons c r ih =>
      rw [twice_cons, List.map_append, List.append_assoc, ih, escN_cons]
      by_cases h : c = 0
      · rw [if_pos h, if_pos h]; rfl
      · rw [if_neg h, if_neg h]; rfl
  simpa using key s.data.toList
theorem esc_parted : ∀ (l m : List UInt8), l ≠ m → Parted (escN l) (escN m) (compareBytes l m)
  | [], [], h => absurd rfl h
  | [], c :: m, _ => by
    show Parted [0, 0] (escN (c :: m)) (-1)
    unfold escN
    split
    · exact parted_cons (parted_head (by omega))
    · rename_i h
      exact parted_head (Nat.pos_of_ne_zero (fun e => h (UInt8.toNat_inj.1 e)))
  | c :: l, [], _ => by
    show Parted (escN (c :: l)) [0, 0] 1
    unfold escN
    split
    · exact parted_cons (parted_head' (by omega))
    · rename_i h
      exact parted_head' (Nat.pos_of_ne_zero (fun e => h (UInt8.toNat_inj.1 e)))
  | a :: l, b :: m, h => by
    unfold compareBytes
    by_cases h1 : a < b
    · rw [if_pos h1]
      have h1' : a.toNat < b.toNat := h1
      have hb : ¬ b = 0 := fun e => by subst e; simp at h1'
      unfold escN
      rw [if_neg hb]
      split
      · rename_i ha
        subst ha
        exact parted_head h1'
      · exact parted_head h1'
    · rw [if_neg h1]
      by_cases h2 : b < a
      · rw [if_pos h2]
        have h2' : b.toNat < a.toNat := h2
        have ha : ¬ a = 0 := fun e => by subst e; simp at h2'
        unfold escN
        rw [if_neg ha]
        split
        · rename_i hb
          subst hb
          exact parted_head' h2'
        · exact parted_head' h2'
      · rw [if_neg h2]
        have h3 : a = b := UInt8.le_antisymm (UInt8.not_lt.1 h2) (UInt8.not_lt.1 h1)
        subst h3
        have ih := esc_parted l m (fun e => h (by rw [e]))
        unfold escN
        split
        · exact parted_cons (parted_cons ih)
        · exact parted_cons ih
theorem key_parted {u v : Val} (hu : u.fine = true) (hv : v.fine = true) (iu : u.In) (iv : v.In) (hne : u ≠ v) : Parted (keyV u) (keyV v) (Val.cmp u v) := by
  rcases Val.fine_cases hu with rfl | ⟨i, rfl⟩ | ⟨s, rfl, _⟩ <;> rcases Val.fine_cases hv with rfl | ⟨j, rfl⟩ | ⟨t, rfl, _⟩
  · exact absurd rfl hne
  · exact parted_head (show 0 < 1 by omega)
  · exact parted_head (show 0 < 2 by omega)
  · exact parted_head' (show 0 < 1 by omega)
  · show Parted (1 :: riseB i) (1 :: riseB j) (if (1 : Nat) < 1 then -1 else if (1 : Nat) < 1 then 1 else if i < j then -1 else if j < i then 1 else cmpS noS noS)
    rw [if_neg (by omega), if_neg (by omega)]
    by_cases h : i < j
    · rw [if_pos h]; exact parted_cons (rise_parted ⟨iu.lo, iu.hi⟩ ⟨iv.lo, iv.hi⟩ h)
    · by_cases h2 : j < i
      · rw [if_neg h, if_pos h2]; exact parted_cons (parted_swap (rise_parted ⟨iv.lo, iv.hi⟩ ⟨iu.lo, iu.hi⟩ h2))
      · exact absurd (by rw [show i = j by omega]) hne
  · exact parted_head (show 1 < 2 by omega)
  · exact parted_head' (show 0 < 2 by omega)
  · exact parted_head' (show 1 < 2 by omega)
  · show Parted (2 :: (strN (escS s) ++ [0, 0])) (2 :: (strN (escS t) ++ [0, 0])) (if (2 : Nat) < 2 then -1 else if (2 : Nat) < 2 then 1 else if (0 : Int) < 0 then -1 else if (0 : Int) < 0 then 1 else cmpS s t)
    rw [if_neg (by omega), if_neg (by omega), if_neg (by omega), if_neg (by omega), escN_eq, escN_eq]
    exact parted_cons (esc_parted _ _ (fun e => hne (by rw [show s = t from ByteArray.ext (Array.toList_inj.1 e)])))
theorem compareBytes_zero : ∀ (l m : List UInt8), compareBytes l m = 0 → l = m
  | [], [], _ => rfl
  | [], _ :: _, h => by simp [compareBytes] at h
  | _ :: _, [], h => by simp [compareBytes] at h
  | a :: x, b :: y, h => by
    unfold compareBytes at h
    by_cases h1 : a < b
    · rw [if_pos h1] at h; omega
    · rw [if_neg h1] at h
      by_cases h2 : b < a
      · rw [if_pos h2] at h; omega
      · rw [if_neg h2] at h
        rw [UInt8.le_antisymm (UInt8.not_lt.1 h2) (UInt8.not_lt.1 h1), compareBytes_zero x y h]
theorem compareBytes_self : ∀ l : List UInt8, compareBytes l l = 0
  | [] => rfl
  | a :: l => by
    unfold compareBytes
    rw [if_neg (by simp), if_neg (by simp)]
    exact compareBytes_self l
theorem cmp_zero {u v : Val} (h : Val.cmp u v = 0) : u = v := by
  obtain ⟨k, i, s⟩ := u
  obtain ⟨l, j, t⟩ := v
  unfold Val.cmp at h
  simp only at h
  by_cases h1 : k < l
  · rw [if_pos h1] at h; omega
  · rw [if_neg h1] at h
    by_cases h2 : l < k
    · rw [if_pos h2] at h; omega
    · rw [if_neg h2] at h
      by_cases h3 : i < j
      · rw [if_pos h3] at h; omega
      · rw [if_neg h3] at h
        by_cases h4 : j < i
        · rw [if_pos h4] at h; omega
        · rw [if_neg h4] at h
          have h5 : s = t := ByteArray.ext (Array.toList_inj.1 (compareBytes_zero _ _ h))
          rw [show k = l by omega, show i = j by omega, h5]
theorem cmp_self (u : Val) : Val.cmp u u = 0 := by
  unfold Val.cmp
  rw [if_neg (by omega), if_neg (by omega), if_neg (by omega), if_neg (by omega)]
  exact compareBytes_self _
/-- how two lists of values stand: by the first that is not the same, what begins another one ahead of it -/
def wantL : List Val → List Val → Int
  | [], [] => 0
  | [], _ :: _ => -1
  | _ :: _, [] => 1
  | u :: l, v :: m => if Val.cmp u v = 0 then wantL l m else Val.cmp u v
theorem keyL_cons (u : Val) (l : List Val) : keyL (u :: l) = keyV u ++ keyL l := rfl
theorem keys_cmp : ∀ (l m : List Val), (∀ x ∈ l, x.fine = true ∧ x.In) → (∀ x ∈ m, x.fine = true ∧ x.In) → cmpN (keyL l) (keyL m) = wantL l m
  | [], [], _, _ => rfl
  | [], v :: m, _, _ => by rw [keyL_cons]; unfold keyV; rfl
  | u :: l, [], _, _ => by rw [keyL_cons]; unfold keyV; rfl
  | u :: l, v :: m, hl, hm => by
    rw [keyL_cons, keyL_cons, wantL]
    by_cases h : Val.cmp u v = 0
    · rw [if_pos h]
      have e := cmp_zero h
      subst e
      rw [cmpN_same]
      exact keys_cmp l m (fun x hx => hl x (List.mem_cons_of_mem _ hx)) (fun x hx => hm x (List.mem_cons_of_mem _ hx))
    · rw [if_neg h]
      have hu := hl u (List.mem_cons_self ..)
      have hv := hm v (List.mem_cons_self ..)
      exact key_parted hu.1 hv.1 hu.2 hv.2 (fun e => h (by rw [e]; exact cmp_self v)) _ _
/-- of lists as long as each other, unlike ones part within their keys -/
theorem keys_parted : ∀ (l m : List Val), (∀ x ∈ l, x.fine = true ∧ x.In) → (∀ x ∈ m, x.fine = true ∧ x.In) → l.length = m.length → wantL l m ≠ 0 → Parted (keyL l) (keyL m) (wantL l m)
  | [], [], _, _, _, h => absurd rfl h
  | [], _ :: _, _, _, h, _ => by simp at h
  | _ :: _, [], _, _, h, _ => by simp at h
  | u :: l, v :: m, hl, hm, hlen, hne => by
    rw [keyL_cons, keyL_cons, wantL]
    rw [wantL] at hne
    by_cases h : Val.cmp u v = 0
    · rw [if_pos h] at hne ⊢
      have e := cmp_zero h
      subst e
      exact parted_behind _ (keys_parted l m (fun x hx => hl x (List.mem_cons_of_mem _ hx)) (fun x hx => hm x (List.mem_cons_of_mem _ hx)) (by simpa using hlen) hne)
    · rw [if_neg h]
      have hu := hl u (List.mem_cons_self ..)
      have hv := hm v (List.mem_cons_self ..)
      exact parted_more (key_parted hu.1 hv.1 hu.2 hv.2 (fun e => h (by rw [e]; exact cmp_self v)))
theorem cmpN_self : ∀ p : List Nat, cmpN p p = 0
  | [] => rfl
  | a :: p => by rw [cmpN, if_neg (by omega), if_neg (by omega)]; exact cmpN_self p
/-- so neither begins the other -/
theorem parted_begins {p q : List Nat} {c : Int} (h : Parted p q c) (hc : c ≠ 0) : q.take p.length ≠ p := by
  intro e
  have h1 := h (q.drop p.length) []
  rw [List.append_nil] at h1
  have h2 : p ++ q.drop p.length = q := by
    conv => lhs; lhs; rw [← e]
    exact List.take_append_drop _ _
  rw [h2, cmpN_self] at h1
  exact hc h1.symm
/-- as Go's own order of strings says it -/
theorem cmpN_bytes : ∀ (a b : List Nat), (∀ x ∈ a, x < 256) → (∀ x ∈ b, x < 256) → compareBytes (a.map UInt8.ofNat) (b.map UInt8.ofNat) = cmpN a b
  | [], [], _, _ => rfl
  | [], _ :: _, _, _ => rfl
  | _ :: _, [], _, _ => rfl
  | x :: a, y :: b, ha, hb => by
    have hx := ha x (List.mem_cons_self ..)
    have hy := hb y (List.mem_cons_self ..)
    have ih := cmpN_bytes a b (fun z hz => ha z (List.mem_cons_of_mem _ hz)) (fun z hz => hb z (List.mem_cons_of_mem _ hz))
    have lt : ∀ p q : Nat, p < 256 → q < 256 → (UInt8.ofNat p < UInt8.ofNat q ↔ p < q) := fun p q hp hq => by
      rw [UInt8.lt_iff_toNat_lt, UInt8.toNat_ofNat', UInt8.toNat_ofNat']
      simp only [Nat.reducePow]
      omega
    rw [List.map_cons, List.map_cons]
    unfold compareBytes
    rw [cmpN, ih]
    by_cases h1 : x < y
    · rw [if_pos h1, if_pos ((lt x y hx hy).2 h1)]
    · rw [if_neg h1, if_neg (fun h => h1 ((lt x y hx hy).1 h))]
      by_cases h2 : y < x
      · rw [if_pos h2, if_pos ((lt y x hy hx).2 h2)]
      · rw [if_neg h2, if_neg (fun h => h2 ((lt y x hy hx).1 h))]
end Go.Proofs.YtjjfmmimmfihgabGreatDoor
