/-
  WHAT IS PROVED: values as plain data: which may be, how two stand, what ops tell of them, and their texts. No program is named here.
-/
import Derived.Test.YtjjfmmimmfihgabGreatDoorDirPure
import Derived.Lib.ItoaLen
namespace Go.Proofs.YtjjfmmimmfihgabGreatDoor
open Go.Lib

/-- a value: its kind, its number, its text -/
structure Val where
  k : Nat
  i : Int
  s : ByteArray

/-- no text -/
def noS : ByteArray := ⟨#[]⟩
theorem noS_of {s : ByteArray} (h : s.size = 0) : s = noS := by
  obtain ⟨⟨l⟩⟩ := s
  cases l with
  | nil => rfl
  | cons a r => simp [ByteArray.size] at h

/-- true is 1, false 0 -/
def bitI (b : Bool) : Int := if b then 1 else 0
namespace Val
def nil : Val := ⟨0, 0, noS⟩
def num (n : Int) : Val := ⟨1, n, noS⟩
def txt (s : ByteArray) : Val := ⟨2, 0, s⟩
def yes (b : Bool) : Val := num (bitI b)
/-- within its types, and short enough -/
structure In (x : Val) : Prop where
  k : x.k < 256
  lo : -9223372036854775808 ≤ x.i
  hi : x.i ≤ 9223372036854775807
  s : x.s.size ≤ 140737488351232
/-- it may be -/
def fine (x : Val) : Bool := (x.k == 0 && decide (x.i = 0) && x.s.size == 0) || (x.k == 1 && x.s.size == 0) || (x.k == 2 && decide (x.i = 0) && decide (x.s.size ≤ 512))
theorem fine_cases {x : Val} (h : x.fine = true) : x = nil ∨ (∃ n, x = num n) ∨ ∃ s, x = txt s ∧ s.size ≤ 512 := by
  obtain ⟨k, i, s⟩ := x
  simp only [fine, Bool.or_eq_true, Bool.and_eq_true, beq_iff_eq, decide_eq_true_eq] at h
  rcases h with (⟨⟨h1, h2⟩, h3⟩ | ⟨h1, h3⟩) | ⟨⟨h1, h2⟩, h3⟩
  · left; subst h1 h2; rw [noS_of h3]; rfl
  · right; left; exact ⟨i, by subst h1; rw [noS_of h3]; rfl⟩
  · right; right; exact ⟨s, by subst h1 h2; rfl, h3⟩
theorem fine_nil : nil.fine = true := rfl
theorem fine_num (n : Int) : (num n).fine = true := rfl
theorem fine_txt (s : ByteArray) : (txt s).fine = decide (s.size ≤ 512) := rfl
/-- how two stand -/
def cmp (a b : Val) : Int := if a.k < b.k then -1 else if b.k < a.k then 1 else if a.i < b.i then -1 else if b.i < a.i then 1 else cmpS a.s b.s
/-- an op of one -/
def one (op : Nat) (x : Val) : Val × Nat :=
  if op < 1 ∨ 4 < op ∨ x.fine = false then (nil, 1)
  else if op = 3 then (yes (x.k == 0), 0)
  else if op = 4 then (yes (x.k != 0), 0)
  else if x.k = 0 then (nil, 0)
  else if x.k = 2 then (nil, 11)
  else if op = 2 then (yes (decide (x.i = 0)), 0)
  else if x.i = -9223372036854775808 then (nil, 12)
  else (num (-x.i), 0)
/-- does a number have 64 bits? -/
def fits (n : Int) : Bool := decide (-9223372036854775808 ≤ n ∧ n ≤ 9223372036854775807)
/-- a sum, a difference, a product, a quotient, what is left -/
def reckon (op : Nat) (a b : Int) : Int × Nat :=
  if op = 5 then (if fits (a + b) then (a + b, 0) else (0, 12))
  else if op = 6 then (if fits (a - b) then (a - b, 0) else (0, 12))
  else if op = 7 then (if fits (a * b) then (a * b, 0) else (0, 12))
  else if b = 0 then (0, 13)
  else if op = 8 then (if fits (a.tdiv b) then (a.tdiv b, 0) else (0, 12))
  else (a.tmod b, 0)
/-- as a part of a text -/
def plain (x : Val) : ByteArray := if x.k = 1 then ⟨(itoa x.i).toArray⟩ else x.s
/-- does an order serve an op? -/
def serves (op : Nat) (c : Int) : Bool :=
  if op = 11 then decide (c = 0) else if op = 12 then !decide (c = 0) else if op = 13 then decide (c < 0) else if op = 14 then decide (c ≤ 0) else if op = 15 then decide (0 < c) else decide (0 ≤ c)
/-- AND, OR: one that decides -/
def decides (so : Bool) (x : Val) : Bool := x.k == 1 && (decide (x.i = 0) != so)
def both (so : Bool) (a b : Val) : Val × Nat :=
  if a.k = 2 ∨ b.k = 2 then (nil, 11)
  else if decides so a || decides so b then (yes so, 0)
  else if a.k = 0 ∨ b.k = 0 then (nil, 0)
  else (yes !so, 0)
/-- an op of two that may be -/
def two0 (op : Nat) (a b : Val) : Val × Nat :=
  if op = 17 ∨ op = 18 then both (op == 18) a b
  else if a.k = 0 ∨ b.k = 0 then (nil, 0)
  else if op = 10 then (if (a.plain ++ b.plain).size ≤ 512 then (txt (a.plain ++ b.plain), 0) else (nil, 3))
  else if 10 < op then (yes (serves op (cmp a b)), 0)
  else if a.k = 2 ∨ b.k = 2 then (nil, 11)
  else if (reckon op a.i b.i).2 = 0 then (num (reckon op a.i b.i).1, 0) else (nil, (reckon op a.i b.i).2)
def two (op : Nat) (a b : Val) : Val × Nat :=
  if op < 5 ∨ 18 < op ∨ a.fine = false ∨ b.fine = false then (nil, 1) else two0 op a b
/-- yes; known; the error -/
def truth (x : Val) : Bool × Bool × Nat := if x.fine = false then (false, false, 1) else if x.k = 2 then (false, false, 11) else (!decide (x.i = 0), x.k == 1, 0)
/-- each sign that ends a text twice -/
def dbl (l : List UInt8) : List UInt8 := l.flatMap fun c => if c = 39 then [39, 39] else [c]
def text (x : Val) : ByteArray :=
  if x.fine = false then noS
  else if x.k = 0 then ⟨#[78, 85, 76, 76]⟩
  else if x.k = 2 then ⟨(39 :: dbl x.s.data.toList ++ [39]).toArray⟩
  else if x.i = -9223372036854775808 then "(-9223372036854775807 - 1)".toUTF8
  else ⟨(itoa x.i).toArray⟩
end Val
end Go.Proofs.YtjjfmmimmfihgabGreatDoor
