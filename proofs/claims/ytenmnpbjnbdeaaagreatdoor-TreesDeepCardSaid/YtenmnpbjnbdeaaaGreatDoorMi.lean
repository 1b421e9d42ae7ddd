/-
  WHAT IS PROVED: plain mathematics of trees: the trees that words are read as, word by word; how many words are left. plain mathematics of statements: what words are read as; which statements may be. how expressions lie in memory; what keeps them; a row of the call's own that becomes a list of them. all texts in a tree are words' own, or empty: so they are short.
-/
import Derived.Test.YtenmnpbjnbdeaaaGreatDoorMb
import Derived.Test.YtenmnpbjnbdeaaaGreatDoorMg
import Derived.Test.YtenmnpbjnbdeaaaGreatDoorMh
namespace Go.Proofs.YtenmnpbjnbdeaaaGreatDoor
section
set_option linter.unusedVariables false

structure Atom where
  kind : Nat
  op : Nat
  table : List UInt8
  name : List UInt8
  vk : Nat
  vi : Int
  vs : List UInt8
  star : Bool
/-- expressions, one behind the other; each has such of its own -/
inductive Exs where
  | nil
  | cons (a : Atom) (l r : Exs)
structure Ex where
  a : Atom
  l : Exs
def Exs.ofL : List Ex → Exs
  | [] => .nil
  | x :: r => .cons x.a x.l (Exs.ofL r)
def noA : Atom := ⟨0, 0, [], [], 0, 0, [], false⟩
def noE : Ex := ⟨noA, .nil⟩
def litE (k : Nat) (i : Int) (s : List UInt8) : Ex := ⟨⟨1, 0, [], [], k, i, s, false⟩, .nil⟩
def colE (t n : List UInt8) : Ex := ⟨⟨2, 0, t, n, 0, 0, [], false⟩, .nil⟩
def oneE (op : Nat) (x : Ex) : Ex := ⟨⟨3, op, [], [], 0, 0, [], false⟩, .cons x.a x.l .nil⟩
def twoE (op : Nat) (x y : Ex) : Ex := ⟨⟨4, op, [], [], 0, 0, [], false⟩, .cons x.a x.l (.cons y.a y.l .nil)⟩
def inE (x : Ex) (l : List Ex) : Ex := ⟨⟨5, 0, [], [], 0, 0, [], false⟩, .cons x.a x.l (Exs.ofL l)⟩
def callE (n : List UInt8) (star : Bool) (l : List Ex) : Ex := ⟨⟨6, 0, [], n, 0, 0, [], star⟩, Exs.ofL l⟩

/-! ### What is left of the words, and whether one was wrong -/
structure St where
  rest : List WordM
  wrong : Bool
def noW : WordM := ⟨0, [], 0, 0⟩
def St.next (t : St) : WordM := if t.wrong then noW else t.rest.headD noW
def St.step (t : St) : St := ⟨t.rest.tail, t.wrong⟩
def St.bad (t : St) : St := ⟨t.rest, true⟩
def St.has (t : St) (s : List UInt8) : Bool := !(t.next.kind == 3 || t.next.s != s)
def St.need (t : St) (s : List UInt8) : St := if t.has s then t.step else t.bad
def wAs : List UInt8 := [97, 115]
def wComma : List UInt8 := [44]
def wOpen : List UInt8 := [40]
def wShut : List UInt8 := [41]
def wDot : List UInt8 := [46]
def wStar : List UInt8 := [42]
def wMinus : List UInt8 := [45]
def wNot : List UInt8 := [110, 111, 116]
def wNull : List UInt8 := [110, 117, 108, 108]
def wIs : List UInt8 := [105, 115]
def wIn : List UInt8 := [105, 110]
def wOr : List UInt8 := [111, 114]
def wAnd : List UInt8 := [97, 110, 100]
def nameP (t : St) : List UInt8 × St := if t.next.kind = 1 ∧ nameB t.next.s = true then (t.next.s, t.step) else ([], t.bad)
def aliasP (t : St) : List UInt8 × St := if t.has wAs then nameP t.step else ([], t)
def numberP (t : St) : Nat × St := if t.next.kind = 2 then (t.next.i, t.step) else (0, t.bad)
def phraseP (a b : List UInt8) (t : St) : Bool × St := if t.has a then (true, t.step.need b) else (false, t)
def listL {α : Type} (f : St → α × St) : Nat → List α → St → List α × St
  | 0, l, t => (l, t)
  | k + 1, l, t => if t.has wComma then listL f k (l ++ [(f t.step).1]) (f t.step).2 else (l, t)
def listP {α : Type} (f : St → α × St) (t : St) : List α × St := listL f (f t).2.rest.length [(f t).1] (f t).2
def enclosedP {α : Type} (f : St → α × St) (t : St) : List α × St := ((listP f (t.need wOpen)).1, (listP f (t.need wOpen)).2.need wShut)

/-- a sign between two: its number, and how tight it is -/
def opOf (s : List UInt8) : Nat × Nat :=
  if s = wOr then (18, 1) else if s = wAnd then (17, 2) else if s = [61] then (11, 3) else if s = [60, 62] then (12, 3) else if s = [60] then (13, 3) else
  if s = [60, 61] then (14, 3) else if s = [62] then (15, 3) else if s = [62, 61] then (16, 3) else if s = [43] then (5, 4) else if s = wMinus then (6, 4) else
  if s = [124, 124] then (10, 4) else if s = wStar then (7, 5) else if s = [47] then (8, 5) else if s = [37] then (9, 5) else (0, 0)
def opP (lv : Nat) (t : St) : Nat × St := if t.next.kind = 3 ∨ (opOf t.next.s).2 ≠ lv then (0, t) else ((opOf t.next.s).1, t.step)
def chainL (lv : Nat) (f : St → Ex × St) : Nat → Ex → St → Ex × St
  | 0, x, t => (x, t)
  | k + 1, x, t => if (opP lv t).1 = 0 then (x, t) else chainL lv f k (twoE (opP lv t).1 x (f (opP lv t).2).1) (f (opP lv t).2).2
def chainP (lv : Nat) (f : St → Ex × St) (t : St) : Ex × St := chainL lv f (f t).2.rest.length (f t).1 (f t).2
def preL (s : List UInt8) (op : Nat) (f : St → Ex × St) : Nat → St → Ex × St
  | 0, t => f t
  | k + 1, t => if t.has s then (oneE op (preL s op f k t.step).1, (preL s op f k t.step).2) else f t
def preP (s : List UInt8) (op : Nat) (f : St → Ex × St) (t : St) : Ex × St := preL s op f t.rest.length t
def compareP (self sum : St → Ex × St) (t : St) : Ex × St :=
  if (sum t).2.has wIs then
    (if (sum t).2.step.has wNot then (oneE 4 (sum t).1, (sum t).2.step.step.need wNull) else (oneE 3 (sum t).1, (sum t).2.step.need wNull))
  else if (sum t).2.has wIn then (inE (sum t).1 (enclosedP self (sum t).2.step).1, (enclosedP self (sum t).2.step).2)
  else if (opP 3 (sum t).2).1 = 0 then sum t
  else (twoE (opP 3 (sum t).2).1 (sum t).1 (sum (opP 3 (sum t).2).2).1, (sum (opP 3 (sum t).2).2).2)
def callP (self : St → Ex × St) (n : List UInt8) (t : St) : Ex × St :=
  if t.has wShut then (callE n false [], t.step)
  else if t.has wStar then (callE n true [], t.step.need wShut)
  else (callE n false (listP self t).1, (listP self t).2.need wShut)
def namedP (self : St → Ex × St) (t : St) : Ex × St :=
  if (nameP t).2.has wDot then (colE (nameP t).1 (nameP (nameP t).2.step).1, (nameP (nameP t).2.step).2)
  else if (nameP t).2.has wOpen then callP self (nameP t).1 (nameP t).2.step
  else (colE [] (nameP t).1, (nameP t).2)
def primaryP (self : St → Ex × St) (t : St) : Ex × St :=
  if t.next.kind = 2 then (litE 1 t.next.i [], t.step)
  else if t.next.kind = 3 then (litE 2 0 t.next.s, t.step)
  else if t.has wNull then (litE 0 0 [], t.step)
  else if t.has wOpen then ((self t.step).1, (self t.step).2.need wShut)
  else namedP self t
def minusP (self : St → Ex × St) : St → Ex × St := preP wMinus 1 (primaryP self)
def productP (self : St → Ex × St) : St → Ex × St := chainP 5 (minusP self)
def sumP (self : St → Ex × St) : St → Ex × St := chainP 4 (productP self)
def notP (self : St → Ex × St) : St → Ex × St := preP wNot 2 (compareP self (sumP self))
def andP (self : St → Ex × St) : St → Ex × St := chainP 2 (notP self)
def exprN : Nat → St → Ex × St
  | 0, t => (noE, t)
  | k + 1, t => chainP 1 (andP (exprN k)) t

/-! ### What is left grows no longer -/
theorem St.step_le (t : St) : t.step.rest.length ≤ t.rest.length := by simp [St.step]
theorem St.has_lt {t : St} {s : List UInt8} (h : t.has s = true) (hs : s ≠ []) : t.step.rest.length < t.rest.length ∧ t.wrong = false := by
  unfold St.has St.next at h
  cases hw : t.wrong with
  | true => rw [hw] at h; simp [noW] at h; exact absurd h hs
  | false =>
    cases hr : t.rest with
    | nil => rw [hw, hr] at h; simp [noW] at h; exact absurd h hs
    | cons x r => simp [St.step, hr]
theorem St.need_le (t : St) (s : List UInt8) : (t.need s).rest.length ≤ t.rest.length := by
  unfold St.need; split
  · exact t.step_le
  · exact Nat.le_refl _
theorem nameP_le (t : St) : (nameP t).2.rest.length ≤ t.rest.length := by
  unfold nameP; split
  · exact t.step_le
  · exact Nat.le_refl _
theorem aliasP_le (t : St) : (aliasP t).2.rest.length ≤ t.rest.length := by
  unfold aliasP; split
  · exact Nat.le_trans (nameP_le _) t.step_le
  · exact Nat.le_refl _
theorem phraseP_le (a b : List UInt8) (t : St) : (phraseP a b t).2.rest.length ≤ t.rest.length := by
  unfold phraseP; split
  · exact Nat.le_trans (St.need_le _ _) t.step_le
  · exact Nat.le_refl _
def Le {α : Type} (f : St → α × St) : Prop := ∀ t, (f t).2.rest.length ≤ t.rest.length
theorem listL_le {α : Type} {f : St → α × St} (h : Le f) : ∀ (k : Nat) (l : List α) (t : St), (listL f k l t).2.rest.length ≤ t.rest.length
  | 0, l, t => Nat.le_refl _
  | k + 1, l, t => by
    unfold listL; split
    · exact Nat.le_trans (listL_le h k _ _) (Nat.le_trans (h _) t.step_le)
    · exact Nat.le_refl _
theorem listP_le {α : Type} {f : St → α × St} (h : Le f) : Le (listP f) := fun t => Nat.le_trans (listL_le h _ _ _) (h t)
theorem enclosedP_le {α : Type} {f : St → α × St} (h : Le f) : Le (enclosedP f) := fun t => Nat.le_trans (St.need_le _ _) (Nat.le_trans (listP_le h _) (St.need_le _ _))
theorem opP_le (lv : Nat) (t : St) : (opP lv t).2.rest.length ≤ t.rest.length := by
  unfold opP; split
  · exact Nat.le_refl _
  · exact t.step_le
theorem opOf_nil : opOf [] = (0, 0) := by kernel_rfl
theorem opP_lt {lv : Nat} {t : St} (h : (opP lv t).1 ≠ 0) : (opP lv t).2.rest.length < t.rest.length ∧ t.wrong = false ∧ (opP lv t).2 = t.step ∧ t.next.kind ≠ 3 ∧ (opOf t.next.s).2 = lv ∧ t.next.s ≠ [] := by
  unfold opP at h ⊢
  split at h
  · exact absurd rfl h
  · rename_i hc
    rw [if_neg hc]
    have hne : t.next.s ≠ [] := fun e => h (by rw [e, opOf_nil])
    refine ⟨?_, ?_, rfl, fun e => hc (.inl e), ?_, hne⟩
    · unfold St.next at hne
      cases hw : t.wrong with
      | true => rw [hw] at hne; exact absurd rfl hne
      | false =>
        cases hr : t.rest with
        | nil => rw [hw, hr] at hne; exact absurd rfl hne
        | cons x r => simp [St.step, hr]
    · cases hw : t.wrong with
      | false => rfl
      | true => unfold St.next at hne; rw [hw] at hne; exact absurd rfl hne
    · by_cases e : (opOf t.next.s).2 = lv
      · exact e
      · exact absurd (.inr e) hc
theorem chainL_le {f : St → Ex × St} (lv : Nat) (h : Le f) : ∀ (k : Nat) (x : Ex) (t : St), (chainL lv f k x t).2.rest.length ≤ t.rest.length
  | 0, x, t => Nat.le_refl _
  | k + 1, x, t => by
    unfold chainL; split
    · exact Nat.le_refl _
    · exact Nat.le_trans (chainL_le lv h k _ _) (Nat.le_trans (h _) (opP_le lv t))
theorem chainP_le {f : St → Ex × St} (lv : Nat) (h : Le f) : Le (chainP lv f) := fun t => Nat.le_trans (chainL_le lv h _ _ _) (h t)
theorem preL_le {f : St → Ex × St} (s : List UInt8) (op : Nat) (h : Le f) : ∀ (k : Nat) (t : St), (preL s op f k t).2.rest.length ≤ t.rest.length
  | 0, t => h t
  | k + 1, t => by
    unfold preL; split
    · exact Nat.le_trans (preL_le s op h k _) t.step_le
    · exact h t
theorem preP_le {f : St → Ex × St} (s : List UInt8) (op : Nat) (h : Le f) : Le (preP s op f) := fun t => preL_le s op h _ t
theorem compareP_le {self sum : St → Ex × St} (h : Le self) (g : Le sum) : Le (compareP self sum) := fun t => by
  unfold compareP
  split
  · split
    · exact Nat.le_trans (St.need_le _ _) (Nat.le_trans (St.step_le _) (Nat.le_trans (St.step_le _) (g t)))
    · exact Nat.le_trans (St.need_le _ _) (Nat.le_trans (St.step_le _) (g t))
  · split
    · exact Nat.le_trans (enclosedP_le h _) (Nat.le_trans (St.step_le _) (g t))
    · split
      · exact g t
      · exact Nat.le_trans (g _) (Nat.le_trans (opP_le _ _) (g t))
theorem callP_le {self : St → Ex × St} (h : Le self) (n : List UInt8) : Le (callP self n) := fun t => by
  unfold callP
  split
  · exact t.step_le
  · split
    · exact Nat.le_trans (St.need_le _ _) t.step_le
    · exact Nat.le_trans (St.need_le _ _) (listP_le h t)
theorem namedP_le {self : St → Ex × St} (h : Le self) : Le (namedP self) := fun t => by
  unfold namedP
  split
  · exact Nat.le_trans (nameP_le _) (Nat.le_trans (St.step_le _) (nameP_le t))
  · split
    · exact Nat.le_trans (callP_le h _ _) (Nat.le_trans (St.step_le _) (nameP_le t))
    · exact nameP_le t
theorem primaryP_le {self : St → Ex × St} (h : Le self) : Le (primaryP self) := fun t => by
  unfold primaryP
  split
  · exact t.step_le
  · split
    · exact t.step_le
    · split
      · exact t.step_le
      · split
        · exact Nat.le_trans (St.need_le _ _) (Nat.le_trans (h _) t.step_le)
        · exact namedP_le h t
theorem minusP_le {self : St → Ex × St} (h : Le self) : Le (minusP self) := preP_le _ _ (primaryP_le h)
theorem productP_le {self : St → Ex × St} (h : Le self) : Le (productP self) := chainP_le _ (minusP_le h)
theorem sumP_le {self : St → Ex × St} (h : Le self) : Le (sumP self) := chainP_le _ (productP_le h)
theorem notP_le {self : St → Ex × St} (h : Le self) : Le (notP self) := preP_le _ _ (compareP_le h (sumP_le h))
theorem andP_le {self : St → Ex × St} (h : Le self) : Le (andP self) := chainP_le _ (notP_le h)
theorem exprN_le : ∀ k, Le (exprN k)
  | 0, t => Nat.le_refl _
  | k + 1, t => chainP_le 1 (andP_le (exprN_le k)) t

/-! ### More rounds than words change nothing -/
theorem listL_zero {α : Type} (f : St → α × St) (k : Nat) (l : List α) (t : St) (h : t.has wComma = false) : listL f k l t = (l, t) := by
  cases k with
  | zero => rfl
  | succ k => unfold listL; rw [if_neg (by rw [h]; simp)]
theorem St.has_nil {t : St} (s : List UInt8) (hs : s ≠ []) (h : t.rest = []) : t.has s = false := by
  cases hb : t.has s with
  | false => rfl
  | true => have := (St.has_lt hb hs).1; rw [h] at this; simp at this
theorem opP_no {t : St} {lv : Nat} (h : (opP lv t).1 = 0) (hl : lv ≠ 0) : opP lv t = (0, t) := by
  unfold opP at h ⊢
  split
  · rfl
  · rename_i hc
    rw [if_neg hc] at h
    exfalso
    apply hc
    right
    intro e
    have key : ∀ s : List UInt8, (opOf s).1 = 0 → (opOf s).2 = 0 := by
      intro s
      unfold opOf
      by_cases h0 : s = wOr
      · rw [if_pos h0]; intro h; exact absurd h (by decide)
      rw [if_neg h0]
      by_cases h1 : s = wAnd
      · rw [if_pos h1]; intro h; exact absurd h (by decide)
      rw [if_neg h1]
      by_cases h2 : s = [61]
      · rw [if_pos h2]; intro h; exact absurd h (by decide)
      rw [if_neg h2]
      by_cases h3 : s = [60, 62]
      · rw [if_pos h3]; intro h; exact absurd h (by decide)
      rw [if_neg h3]
      by_cases h4 : s = [60]
      · rw [if_pos h4]; intro h; exact absurd h (by decide)
      rw [if_neg h4]
      by_cases h5 : s = [60, 61]
      · rw [if_pos h5]; intro h; exact absurd h (by decide)
      rw [if_neg h5]
      by_cases h6 : s = [62]
      · rw [if_pos h6]; intro h; exact absurd h (by decide)
      rw [if_neg h6]
      by_cases h7 : s = [62, 61]
      · rw [if_pos h7]; intro h; exact absurd h (by decide)
      rw [if_neg h7]
      by_cases h8 : s = [43]
      · rw [if_pos h8]; intro h; exact absurd h (by decide)
      rw [if_neg h8]
      by_cases h9 : s = wMinus
      · rw [if_pos h9]; intro h; exact absurd h (by decide)
      rw [if_neg h9]
      by_cases h10 : s = [124, 124]
      · rw [if_pos h10]; intro h; exact absurd h (by decide)
      rw [if_neg h10]
      by_cases h11 : s = wStar
      · rw [if_pos h11]; intro h; exact absurd h (by decide)
      rw [if_neg h11]
      by_cases h12 : s = [47]
      · rw [if_pos h12]; intro h; exact absurd h (by decide)
      rw [if_neg h12]
      by_cases h13 : s = [37]
      · rw [if_pos h13]; intro h; exact absurd h (by decide)
      rw [if_neg h13]
      intro _; rfl
    exact hl (by rw [← e]; exact key _ h)
end
section
set_option linter.unusedVariables false

structure ColM where
  name : List UInt8
  type : Nat
  primary : Bool
  unique : Bool
  notNull : Bool
structure ItemM where
  e : Ex
  aka : List UInt8
  star : Bool
structure FromM where
  table : List UInt8
  aka : List UInt8
  on : Ex
structure OrderM where
  e : Ex
  down : Bool
structure AsgM where
  name : List UInt8
  value : Ex
structure StM where
  kind : Nat
  name : List UInt8
  table : List UInt8
  columns : List ColM
  names : List (List UInt8)
  rows : List (List Ex)
  items : List ItemM
  tables : List FromM
  cond : Ex
  group : List Ex
  having_ : Ex
  order : List OrderM
  limit : Int
  skip : Int
def noS : StM := ⟨0, [], [], [], [], [], [], [], noE, [], noE, [], 0, 0⟩

def wSelect : List UInt8 := [115, 101, 108, 101, 99, 116]
def wInsert : List UInt8 := [105, 110, 115, 101, 114, 116]
def wUpdate : List UInt8 := [117, 112, 100, 97, 116, 101]
def wDelete : List UInt8 := [100, 101, 108, 101, 116, 101]
def wCreate : List UInt8 := [99, 114, 101, 97, 116, 101]
def wDrop : List UInt8 := [100, 114, 111, 112]
def wTable : List UInt8 := [116, 97, 98, 108, 101]
def wIndex : List UInt8 := [105, 110, 100, 101, 120]
def wInto : List UInt8 := [105, 110, 116, 111]
def wValues : List UInt8 := [118, 97, 108, 117, 101, 115]
def wSet : List UInt8 := [115, 101, 116]
def wFrom : List UInt8 := [102, 114, 111, 109]
def wWhere : List UInt8 := [119, 104, 101, 114, 101]
def wGroup : List UInt8 := [103, 114, 111, 117, 112]
def wBy : List UInt8 := [98, 121]
def wHaving : List UInt8 := [104, 97, 118, 105, 110, 103]
def wOrder : List UInt8 := [111, 114, 100, 101, 114]
def wAsc : List UInt8 := [97, 115, 99]
def wDesc : List UInt8 := [100, 101, 115, 99]
def wLimit : List UInt8 := [108, 105, 109, 105, 116]
def wOffset : List UInt8 := [111, 102, 102, 115, 101, 116]
def wJoin : List UInt8 := [106, 111, 105, 110]
def wOn : List UInt8 := [111, 110]
def wInt : List UInt8 := [105, 110, 116]
def wText : List UInt8 := [116, 101, 120, 116]
def wPrimary : List UInt8 := [112, 114, 105, 109, 97, 114, 121]
def wKey : List UInt8 := [107, 101, 121]
def wUnique : List UInt8 := [117, 110, 105, 113, 117, 101]
def wEq : List UInt8 := [61]

abbrev Self := St → Ex × St
def condP (self : Self) (s : List UInt8) (t : St) : Ex × St := if t.has s then self t.step else (noE, t)
def itemP (self : Self) (t : St) : ItemM × St := (⟨(self t).1, (aliasP (self t).2).1, false⟩, (aliasP (self t).2).2)
def itemsP (self : Self) (t : St) : List ItemM × St := if t.has wStar then ([⟨noE, [], true⟩], t.step) else listP (itemP self) t
def tableP (t : St) : FromM × St := (⟨(nameP t).1, (aliasP (nameP t).2).1, noE⟩, (aliasP (nameP t).2).2)
/-- a table behind another one -/
def joinP (self : Self) (t : St) : FromM × St := (⟨(tableP t).1.table, (tableP t).1.aka, (self ((tableP t).2.need wOn)).1⟩, (self ((tableP t).2.need wOn)).2)
def tablesL (self : Self) : Nat → List FromM → St → List FromM × St
  | 0, l, t => (l, t)
  | k + 1, l, t => if t.has wJoin then tablesL self k (l ++ [(joinP self t.step).1]) (joinP self t.step).2 else (l, t)
def tablesP (self : Self) (t : St) : List FromM × St := tablesL self (tableP t).2.rest.length [(tableP t).1] (tableP t).2
def orderP (self : Self) (t : St) : OrderM × St :=
  if (self t).2.has wDesc then (⟨(self t).1, true⟩, (self t).2.step) else (⟨(self t).1, false⟩, if (self t).2.has wAsc then (self t).2.step else (self t).2)
def rowP (self : Self) : St → List Ex × St := enclosedP self
def asgP (self : Self) (t : St) : AsgM × St := (⟨(nameP t).1, (self ((nameP t).2.need wEq)).1⟩, (self ((nameP t).2.need wEq)).2)
/-- an integer's word, or a text's -/
def typeP (t : St) : Nat × St := if t.has wInt then (1, t.step) else if t.has wText then (2, t.step) else (0, t.bad)
def flagP (s : List UInt8) (t : St) : Bool × St := if t.has s then (true, t.step) else (false, t)
def columnP (t : St) : ColM × St :=
  let n := nameP t
  let y := typeP n.2
  let p := phraseP wPrimary wKey y.2
  let u := flagP wUnique p.2
  let v := phraseP wNot wNull u.2
  (⟨n.1, y.1, p.1, u.1, v.1⟩, v.2)

def groupP (self : Self) (t : St) : (List Ex × Ex) × St :=
  let p := phraseP wGroup wBy t
  if p.1 then (let g := listP self p.2; let h := condP self wHaving g.2; ((g.1, h.1), h.2)) else (([], noE), p.2)
def ordersP (self : Self) (t : St) : List OrderM × St :=
  let p := phraseP wOrder wBy t
  if p.1 then listP (orderP self) p.2 else ([], p.2)
def limitP (t : St) : (Int × Int) × St :=
  if t.has wLimit then
    (if (numberP t.step).2.has wOffset then (((numberP t.step).1, (numberP (numberP t.step).2.step).1), (numberP (numberP t.step).2.step).2)
     else (((numberP t.step).1, 0), (numberP t.step).2))
  else ((-1, 0), t)
def selectP (self : Self) (t : St) : StM × St :=
  let i := itemsP self t
  let f := tablesP self (i.2.need wFrom)
  let w := condP self wWhere f.2
  let g := groupP self w.2
  let o := ordersP self g.2
  let l := limitP o.2
  (⟨7, [], [], [], [], [], i.1, f.1, w.1, g.1.1, g.1.2, o.1, l.1.1, l.1.2⟩, l.2)
def insertP (self : Self) (t : St) : StM × St :=
  let n := nameP (t.need wInto)
  let c := if n.2.has wValues then ([], n.2.step) else ((enclosedP nameP n.2).1, (enclosedP nameP n.2).2.need wValues)
  let r := listP (rowP self) c.2
  (⟨4, [], n.1, [], c.1, r.1, [], [], noE, [], noE, [], 0, 0⟩, r.2)
def updateP (self : Self) (t : St) : StM × St :=
  let n := nameP t
  let a := listP (asgP self) (n.2.need wSet)
  let w := condP self wWhere a.2
  (⟨5, [], n.1, [], a.1.map AsgM.name, [a.1.map AsgM.value], [], [], w.1, [], noE, [], 0, 0⟩, w.2)
def removeP (self : Self) (t : St) : StM × St :=
  let n := nameP (t.need wFrom)
  let w := condP self wWhere n.2
  (⟨6, [], n.1, [], [], [], [], [], w.1, [], noE, [], 0, 0⟩, w.2)
def indexP (t : St) : StM × St :=
  let n := nameP t
  let b := nameP (n.2.need wOn)
  let c := nameP (b.2.need wOpen)
  (⟨3, n.1, b.1, [], [c.1], [], [], [], noE, [], noE, [], 0, 0⟩, c.2.need wShut)
def createP (t : St) : StM × St :=
  if t.has wIndex then indexP t.step
  else
    let n := nameP (t.need wTable)
    let c := enclosedP columnP n.2
    (⟨1, [], n.1, c.1, [], [], [], [], noE, [], noE, [], 0, 0⟩, c.2)
def dropP (t : St) : StM × St :=
  let n := nameP (t.need wTable)
  (⟨2, [], n.1, [], [], [], [], [], noE, [], noE, [], 0, 0⟩, n.2)
def statementP (self : Self) (t : St) : StM × St :=
  if t.has wSelect then selectP self t.step
  else if t.has wInsert then insertP self t.step
  else if t.has wUpdate then updateP self t.step
  else if t.has wDelete then removeP self t.step
  else if t.has wCreate then createP t.step
  else if t.has wDrop then dropP t.step
  else (noS, t.bad)

/-! ### Which may be -/
def Exs.len : Exs → Nat
  | .nil => 0
  | .cons _ _ r => r.len + 1
def aliasB (s : List UInt8) : Bool := s == [] || nameB s
def Atom.plain (a : Atom) : Bool := a.vk == 0 && a.vi == 0 && a.vs == []
def litB (a : Atom) : Bool := if a.vk = 1 then decide (0 ≤ a.vi) && a.vs == [] else if a.vk = 2 then a.vi == 0 && decide (a.vs.length ≤ 512) else a.plain
/-- the fields of its kind -/
def shapeB (a : Atom) (n : Nat) : Bool :=
  if a.kind = 1 then litB a
  else if a.kind = 2 then aliasB a.table && nameB a.name
  else if a.kind = 3 then decide (1 ≤ a.op) && (decide (a.op ≤ 4) && n == 1)
  else if a.kind = 4 then decide (5 ≤ a.op) && (decide (a.op ≤ 18) && n == 2)
  else if a.kind = 5 then decide (2 ≤ n) && decide (n ≤ 65)
  else if a.kind = 6 then nameB a.name && (decide (n ≤ 64) && !(a.star && decide (0 < n)))
  else false
/-- all others are none -/
def leftB (a : Atom) (n : Nat) : Bool :=
  if a.kind = 1 then a.op == 0 && a.table == [] && a.name == [] && !a.star && n == 0
  else if a.kind = 2 then a.op == 0 && a.plain && !a.star && n == 0
  else if a.kind = 3 ∨ a.kind = 4 then a.table == [] && a.name == [] && a.plain && !a.star
  else if a.kind = 5 then a.op == 0 && a.table == [] && a.name == [] && a.plain && !a.star
  else if a.kind = 6 then a.op == 0 && a.table == [] && a.plain
  else a.op == 0 && a.table == [] && a.name == [] && a.plain && !a.star && n == 0
/-- may all of them be, each so deep at most? -/
def withinB : Nat → Exs → Bool
  | _, .nil => true
  | d, .cons a l r => (decide (d ≠ 0) && (shapeB a l.len && (leftB a l.len && withinB (d - 1) l))) && withinB d r
def fineE (x : Ex) : Bool := withinB 24 (.cons x.a x.l .nil)
def noneE (x : Ex) : Bool := x.a.kind == 0 && x.a.op == 0 && x.a.table == [] && x.a.name == [] && x.a.plain && !x.a.star && x.l.len == 0
def optE (x : Ex) : Bool := noneE x || fineE x
def allB {α : Type} (most : Nat) (f : α → Bool) (l : List α) : Bool := l.length != 0 && decide (l.length ≤ most) && l.all f
def anyB {α : Type} (f : α → Bool) (l : List α) : Bool := l.length == 0 || allB 64 f l
def itemB (x : ItemM) : Bool := !x.star && (aliasB x.aka && fineE x.e)
def itemsB (l : List ItemM) : Bool := match l with
  | [x] => if x.star then noneE x.e && x.aka == [] else allB 64 itemB l
  | _ => allB 64 itemB l
def tableB (x : FromM) : Bool := nameB x.table && aliasB x.aka
def tablesB (l : List FromM) : Bool := match l with
  | [] => false
  | x :: r => allB 3 tableB l && (noneE x.on && (r.length == 0 || allB 3 (fun y => fineE y.on) r))
def limitB (limit skip : Int) : Bool := if limit = -1 then skip == 0 else decide (0 ≤ limit) && decide (0 ≤ skip)
def selectB (x : StM) : Bool := itemsB x.items && (tablesB x.tables && (optE x.cond && (anyB fineE x.group && (optE x.having_ && ((x.group.length != 0 || noneE x.having_) && (anyB (fun y => fineE y.e) x.order && limitB x.limit x.skip))))))
def columnB (c : ColM) : Bool := nameB c.name && (c.type == 1 || c.type == 2)
def rowB (l : List Ex) : Bool := allB 64 fineE l
def ownB (x : StM) : Bool :=
  if x.kind = 7 then selectB x
  else if nameB x.table = false then false
  else if x.kind = 1 then allB 16 columnB x.columns
  else if x.kind = 2 then true
  else if x.kind = 3 then nameB x.name && allB 1 nameB x.names
  else if x.kind = 4 then anyB nameB x.names && allB 64 rowB x.rows
  else if x.kind = 5 then allB 64 nameB x.names && (allB 1 rowB x.rows && ((x.rows.headD []).length == x.names.length && optE x.cond))
  else if x.kind = 6 then optE x.cond
  else false
def restS (x : StM) : StM :=
  if x.kind = 1 then { x with kind := 0, table := [], columns := [] }
  else if x.kind = 2 then { x with kind := 0, table := [] }
  else if x.kind = 3 then { x with kind := 0, name := [], table := [], names := [] }
  else if x.kind = 4 then { x with kind := 0, table := [], names := [], rows := [] }
  else if x.kind = 5 then { x with kind := 0, table := [], names := [], rows := [], cond := noE }
  else if x.kind = 6 then { x with kind := 0, table := [], cond := noE }
  else if x.kind = 7 then { x with kind := 0, items := [], tables := [], cond := noE, group := [], having_ := noE, order := [], limit := 0, skip := 0 }
  else { x with kind := 0 }
def noneS (x : StM) : Bool := x.kind == 0 && x.name == [] && x.table == [] && x.columns.length == 0 && x.names.length == 0 && x.rows.length == 0 && x.items.length == 0 && x.tables.length == 0 && noneE x.cond && x.group.length == 0 && noneE x.having_ && x.order.length == 0 && x.limit == 0 && x.skip == 0
def checkB (x : StM) : Bool := ownB x && noneS (restS x)

/-! ### A text's -/
inductive Out (α : Type) where
  | ok (x : α)
  | bad (pos : Nat) (e : Nat)
def outP {α : Type} (s : List UInt8) (f : Nat → St → α × St) (may : α → Bool) : Out α :=
  match ofB s with
  | .bad a e => .bad a e
  | .ok l =>
    let x := f (l.length + 1) ⟨l, false⟩
    match x.2.rest with
    | w :: _ => .bad w.pos 4
    | [] => if x.2.wrong then .bad s.length 4 else if may x.1 then .ok x.1 else .bad 0 3
def exprB (s : List UInt8) : Out Ex := outP s exprN fineE
def stmtB (s : List UInt8) : Out StM := outP s (fun k => statementP (exprN k)) checkB
end
section
open Go.RowKit Go.Shelf
set_option linter.unusedVariables false

def Atom.cells (a : Atom) : List Value := [.int .u8 (a.kind : Int), .int .u8 (a.op : Int), .string (strU a.table), .string (strU a.name), .int .u8 (a.vk : Int), .int .i64 a.vi, .string (strU a.vs), .bool a.star]
/-- an expression's value: its fields, and its list -/
def exVal (a : Atom) (u : Value) : Value := .agg #[.int .u8 (a.kind : Int), .int .u8 (a.op : Int), .string (strU a.table), .string (strU a.name), .int .u8 (a.vk : Int), .int .i64 a.vi, .string (strU a.vs), .bool a.star, u]
/-- THESE EXPRESSIONS LIE IN BLOCK b FROM o ON; all lists of theirs lie in blocks of P -/
def RE (P : Nat → Prop) (w : World) : Exs → Nat → Nat → Prop
  | .nil, _, _ => True
  | .cons a l r, b, o => (∀ (j : Nat) (u : Value), a.cells[j]? = some u → w.cell? ⟨b, o + j, none⟩ = some u) ∧
      (∃ v, w.cell? ⟨b, o + 8, none⟩ = some v ∧ ((v = .slice none 0 0 ∧ l = .nil) ∨ ∃ g cap, v = .slice (some ⟨g, 0, none⟩) l.len cap ∧ l.len ≤ cap ∧ cap ≤ 9223372036854775807 ∧ P g ∧ g < w.heap.size ∧ RE P w l g 0)) ∧
      RE P w r b (o + 9)
/-- the slice v reads as these -/
def REs (P : Nat → Prop) (w : World) (v : Value) (l : Exs) : Prop :=
  (v = .slice none 0 0 ∧ l = .nil) ∨ ∃ g cap, v = .slice (some ⟨g, 0, none⟩) l.len cap ∧ l.len ≤ cap ∧ cap ≤ 9223372036854775807 ∧ P g ∧ g < w.heap.size ∧ RE P w l g 0
/-- the value v reads as this one -/
def REx (P : Nat → Prop) (w : World) (v : Value) (x : Ex) : Prop := ∃ u, v = exVal x.a u ∧ REs P w u x.l

theorem RE.kept {P : Nat → Prop} {w w' : World} (hs : w.heap.size ≤ w'.heap.size) (hk : ∀ k, P k → k < w.heap.size → w'.heap[k]? = w.heap[k]?) : ∀ (l : Exs) (b o : Nat), w'.heap[b]? = w.heap[b]? → RE P w l b o → RE P w' l b o
  | .nil, _, _, _, _ => trivial
  | .cons a l r, b, o, hb, h => by
    obtain ⟨h1, ⟨v, h2, h3⟩, h4⟩ := h
    refine ⟨fun j u hu => (World.cell?_of_block hb).trans (h1 j u hu), ⟨v, (World.cell?_of_block hb).trans h2, ?_⟩, RE.kept hs hk r b _ hb h4⟩
    rcases h3 with h3 | ⟨g, cap, e, q1, q2, q3, q4, q5⟩
    · exact .inl h3
    · exact .inr ⟨g, cap, e, q1, q2, q3, Nat.lt_of_lt_of_le q4 hs, RE.kept hs hk l g 0 (hk g q3 q4) q5⟩
theorem RE.mono {P Q : Nat → Prop} {w : World} (hk : ∀ k, P k → k < w.heap.size → Q k) : ∀ (l : Exs) (b o : Nat), RE P w l b o → RE Q w l b o
  | .nil, _, _, _ => trivial
  | .cons a l r, b, o, h => by
    obtain ⟨h1, ⟨v, h2, h3⟩, h4⟩ := h
    refine ⟨h1, ⟨v, h2, ?_⟩, RE.mono hk r b _ h4⟩
    rcases h3 with h3 | ⟨g, cap, e, q1, q2, q3, q4, q5⟩
    · exact .inl h3
    · exact .inr ⟨g, cap, e, q1, q2, hk g q3 q4, q4, RE.mono hk l g 0 q5⟩
theorem REs.kept {P : Nat → Prop} {w w' : World} {v : Value} {l : Exs} (h : REs P w v l) (hs : w.heap.size ≤ w'.heap.size) (hk : ∀ k, P k → k < w.heap.size → w'.heap[k]? = w.heap[k]?) : REs P w' v l := by
  rcases h with h | ⟨g, cap, e, q1, q2, q3, q4, q5⟩
  · exact .inl h
  · exact .inr ⟨g, cap, e, q1, q2, q3, Nat.lt_of_lt_of_le q4 hs, RE.kept hs hk l g 0 (hk g q3 q4) q5⟩
theorem REs.mono {P Q : Nat → Prop} {w : World} {v : Value} {l : Exs} (h : REs P w v l) (hk : ∀ k, P k → k < w.heap.size → Q k) : REs Q w v l := by
  rcases h with h | ⟨g, cap, e, q1, q2, q3, q4, q5⟩
  · exact .inl h
  · exact .inr ⟨g, cap, e, q1, q2, hk g q3 q4, q4, RE.mono hk l g 0 q5⟩
theorem REx.kept {P : Nat → Prop} {w w' : World} {v : Value} {x : Ex} (h : REx P w v x) (hs : w.heap.size ≤ w'.heap.size) (hk : ∀ k, P k → k < w.heap.size → w'.heap[k]? = w.heap[k]?) : REx P w' v x := by
  obtain ⟨u, e, h⟩ := h; exact ⟨u, e, h.kept hs hk⟩
theorem REx.mono {P Q : Nat → Prop} {w : World} {v : Value} {x : Ex} (h : REx P w v x) (hk : ∀ k, P k → k < w.heap.size → Q k) : REx Q w v x := by
  obtain ⟨u, e, h⟩ := h; exact ⟨u, e, h.mono hk⟩
theorem REx.turn {P S : Nat → Prop} {w w' : World} {v : Value} {x : Ex} (h : REx P w v x) (ht : Turn S w w') (hn : ∀ k, P k → ¬ S k) : REx P w' v x := h.kept ht.size (fun k hp hk => ht.block k hk (hn k hp))
theorem REs.turn {P S : Nat → Prop} {w w' : World} {v : Value} {l : Exs} (h : REs P w v l) (ht : Turn S w w') (hn : ∀ k, P k → ¬ S k) : REs P w' v l := h.kept ht.size (fun k hp hk => ht.block k hk (hn k hp))
theorem REx.below {P : Nat → Prop} {w w' : World} {v : Value} {x : Ex} (h : REx P w v x) (hb : Below w.heap.size w w') : REx P w' v x := h.kept hb.size (fun k _ hk => hb.block k hk)
theorem REs.below {P : Nat → Prop} {w w' : World} {v : Value} {l : Exs} (h : REs P w v l) (hb : Below w.heap.size w w') : REs P w' v l := h.kept hb.size (fun k _ hk => hb.block k hk)
theorem Turn.below {S : Nat → Prop} {w w' : World} (h : Turn S w w') (hn : ∀ k, k < w.heap.size → ¬ S k) : Below w.heap.size w w' := ⟨h.os, h.tape, h.output, h.size, fun k hk => h.block k hk (hn k hk)⟩
theorem Turn.of_below {S : Nat → Prop} {w w' : World} (h : Below w.heap.size w w') : Turn S w w' := ⟨h.os, h.tape, h.output, h.size, fun k hk _ => h.block k hk⟩
theorem Turn.then_below {S : Nat → Prop} {w w' w2 : World} (h : Turn S w w') (hb : Below w'.heap.size w' w2) : Turn S w w2 := h.trans (Turn.of_below hb)
theorem Turn.below_then {S : Nat → Prop} {w w' w2 : World} (hb : Below w.heap.size w w') (h : Turn S w' w2) : Turn S w w2 := (Turn.of_below hb).trans h

theorem REs.nil (P : Nat → Prop) (w : World) : REs P w (.slice none 0 0) .nil := .inl ⟨rfl, rfl⟩
theorem Exs.len_of : ∀ l : List Ex, (Exs.ofL l).len = l.length
  | [] => rfl
  | x :: r => by show (Exs.ofL r).len + 1 = _; rw [Exs.len_of r, List.length_cons]
/-- an expression's cells, as they lie in a row -/
def exCells (a : Atom) (u : Value) : List Value := a.cells ++ [u]
theorem exCells_len (a : Atom) (u : Value) : (exCells a u).length = 9 := rfl
/-- values that read as expressions -/
def REall (P : Nat → Prop) (w : World) : List Value → List Ex → Prop
  | [], [] => True
  | u :: us, x :: l => REs P w u x.l ∧ REall P w us l
  | _, _ => False
def cellsX : List Value → List Ex → List Value
  | u :: us, x :: l => exCells x.a u ++ cellsX us l
  | _, _ => []
theorem REall.len {P : Nat → Prop} {w : World} : ∀ {us : List Value} {l : List Ex}, REall P w us l → us.length = l.length
  | [], [], _ => rfl
  | u :: us, x :: l, h => by simp [REall.len h.2]
  | [], _ :: _, h => h.elim
  | _ :: _, [], h => h.elim
theorem REall.kept {P : Nat → Prop} {w w' : World} (hs : w.heap.size ≤ w'.heap.size) (hk : ∀ k, P k → k < w.heap.size → w'.heap[k]? = w.heap[k]?) : ∀ {us : List Value} {l : List Ex}, REall P w us l → REall P w' us l
  | [], [], _ => trivial
  | u :: us, x :: l, h => ⟨h.1.kept hs hk, REall.kept hs hk h.2⟩
  | [], _ :: _, h => h.elim
  | _ :: _, [], h => h.elim
theorem REall.mono {P Q : Nat → Prop} {w : World} (hk : ∀ k, P k → k < w.heap.size → Q k) : ∀ {us : List Value} {l : List Ex}, REall P w us l → REall Q w us l
  | [], [], _ => trivial
  | u :: us, x :: l, h => ⟨h.1.mono hk, REall.mono hk h.2⟩
  | [], _ :: _, h => h.elim
  | _ :: _, [], h => h.elim
theorem REall.snoc {P : Nat → Prop} {w : World} {u : Value} {x : Ex} (hx : REs P w u x.l) : ∀ {us : List Value} {l : List Ex}, REall P w us l → REall P w (us ++ [u]) (l ++ [x])
  | [], [], _ => ⟨hx, trivial⟩
  | v :: us, y :: l, h => ⟨h.1, REall.snoc hx h.2⟩
  | [], _ :: _, h => h.elim
  | _ :: _, [], h => h.elim
theorem REall.turn {P S : Nat → Prop} {w w' : World} {us : List Value} {l : List Ex} (h : REall P w us l) (ht : Turn S w w') (hn : ∀ k, P k → ¬ S k) : REall P w' us l := h.kept ht.size (fun k hp hk => ht.block k hk (hn k hp))
/-- where cells stand that read so, such expressions lie -/
theorem RE.of_cells {P : Nat → Prop} {w : World} (b : Nat) : ∀ (us : List Value) (l : List Ex) (o : Nat), REall P w us l → (∀ (j : Nat) (u : Value), (cellsX us l)[j]? = some u → w.cell? ⟨b, o + j, none⟩ = some u) → RE P w (Exs.ofL l) b o
  | [], [], _, _, _ => trivial
  | u :: us, x :: l, o, h, hc => by
    have h8 : (exCells x.a u)[8]? = some u := rfl
    refine ⟨fun j v hv => hc j v ?_, ⟨u, hc 8 u ?_, h.1⟩, RE.of_cells b us l (o + 9) h.2 fun j v hv => ?_⟩
    · have hj : j < 8 := (List.getElem?_eq_some_iff.1 hv).1
      show (exCells x.a u ++ cellsX us l)[j]? = _
      rw [List.getElem?_append_left (by rw [exCells_len]; omega)]
      unfold exCells
      rw [List.getElem?_append_left (by exact hj)]; exact hv
    · show (exCells x.a u ++ cellsX us l)[8]? = _
      rw [List.getElem?_append_left (by rw [exCells_len]; omega)]; exact h8
    · have := hc (9 + j) v (by
        show (exCells x.a u ++ cellsX us l)[9 + j]? = _
        rw [List.getElem?_append_right (by rw [exCells_len]; omega), exCells_len, Nat.add_sub_cancel_left]; exact hv)
      rwa [← Nat.add_assoc] at this
  | [], _ :: _, _, h, _ => h.elim
  | _ :: _, [], _, h, _ => h.elim
theorem REs.of_own {P : Nat → Prop} {w : World} {base : Nat} {v : Value} {us : List Value} {l : List Ex} (h : w.ownsRow base 36 9 v l.length (cellsX us l)) (ha : REall P w us l) (hp : ∀ k, v.ownBlock = some k → P k) : REs P w v (Exs.ofL l) := by
  have hc := fun g => @World.ownsRow.cells w base 36 9 v l.length (cellsX us l) h g
  rcases h.2 with ⟨h1, h2⟩ | ⟨g, cap, cur, h1, hg, hh, hn, hm, _⟩
  · have := List.eq_nil_of_length_eq_zero h2
    subst this
    exact .inl ⟨h1, rfl⟩
  · refine .inr ⟨g, cap, by rw [h1, Exs.len_of], by rw [Exs.len_of]; exact hn, by unfold maxLen at hm; exact hm, hp g (by rw [h1]; rfl), (Array.getElem?_eq_some_iff.1 hh).1, RE.of_cells g us l 0 ha fun j u hu => ?_⟩
    have := hc g (by rw [h1]; rfl) j u hu
    rw [show (⟨g, 0, none⟩ : Addr).add j = ⟨g, j, none⟩ by unfold Addr.add; split <;> simp_all] at this
    rw [Nat.zero_add]; exact this
/-- a list of a literal's block -/
theorem REs.of_block {P : Nat → Prop} {w : World} {b : Nat} {cs : Array Value} {us : List Value} {l : List Ex} {fr : Nat × Nat} (h : w.heap[b]? = some (.cells cs 36 fr)) (hc : cs.toList = cellsX us l) (ha : REall P w us l) (hp : P b) (hl : l.length ≤ 1000000) (n : Nat) (hn : l.length = n) : REs P w (.slice (some ⟨b, 0, none⟩) n n) (Exs.ofL l) := by
  subst hn
  refine .inr ⟨b, l.length, by rw [Exs.len_of], by rw [Exs.len_of]; exact Nat.le_refl _, by omega, hp, (Array.getElem?_eq_some_iff.1 h).1, RE.of_cells b us l 0 ha fun j u hu => ?_⟩
  rw [Nat.zero_add, cell_of_row w b j cs _ _ h, ← Array.getElem?_toList, hc]; exact hu
end

/-! ### Short names for cells -/
abbrev nS : Value := .slice none 0 0
abbrev z0 : ByteArray := ⟨#[]⟩
abbrev eA (a : Atom) (u : Value) : Array Value := #[.int .u8 (a.kind : Int), .int .u8 (a.op : Int), .string (strU a.table), .string (strU a.name), .int .u8 (a.vk : Int), .int .i64 a.vi, .string (strU a.vs), .bool a.star, u]
abbrev eL (a : Atom) (u : Value) : List Value := [.int .u8 (a.kind : Int), .int .u8 (a.op : Int), .string (strU a.table), .string (strU a.name), .int .u8 (a.vk : Int), .int .i64 a.vi, .string (strU a.vs), .bool a.star, u]
abbrev zA : Array Value := #[.int .u8 0, .int .u8 0, .string ⟨#[]⟩, .string ⟨#[]⟩, .int .u8 0, .int .i64 0, .string ⟨#[]⟩, .bool false, .slice none 0 0]
abbrev s00 (k : Int) (nm tb : ByteArray) (c n r i f : Value) (g : Value) (o : Value) (l s : Int) : Array Value := #[.int .u8 k, .string nm, .string tb, c, n, r, i, f, .int .u8 0, .int .u8 0, .string ⟨#[]⟩, .string ⟨#[]⟩, .int .u8 0, .int .i64 0, .string ⟨#[]⟩, .bool false, .slice none 0 0, g, .int .u8 0, .int .u8 0, .string ⟨#[]⟩, .string ⟨#[]⟩, .int .u8 0, .int .i64 0, .string ⟨#[]⟩, .bool false, .slice none 0 0, o, .int .i64 l, .int .i64 s]
abbrev s01 (k : Int) (nm tb : ByteArray) (c n r i f : Value) (g : Value) (b : Atom) (h : Value) (o : Value) (l s : Int) : Array Value := #[.int .u8 k, .string nm, .string tb, c, n, r, i, f, .int .u8 0, .int .u8 0, .string ⟨#[]⟩, .string ⟨#[]⟩, .int .u8 0, .int .i64 0, .string ⟨#[]⟩, .bool false, .slice none 0 0, g, .int .u8 (b.kind : Int), .int .u8 (b.op : Int), .string (strU b.table), .string (strU b.name), .int .u8 (b.vk : Int), .int .i64 b.vi, .string (strU b.vs), .bool b.star, h, o, .int .i64 l, .int .i64 s]
abbrev s10 (k : Int) (nm tb : ByteArray) (c n r i f : Value) (a : Atom) (u : Value) (g : Value) (o : Value) (l s : Int) : Array Value := #[.int .u8 k, .string nm, .string tb, c, n, r, i, f, .int .u8 (a.kind : Int), .int .u8 (a.op : Int), .string (strU a.table), .string (strU a.name), .int .u8 (a.vk : Int), .int .i64 a.vi, .string (strU a.vs), .bool a.star, u, g, .int .u8 0, .int .u8 0, .string ⟨#[]⟩, .string ⟨#[]⟩, .int .u8 0, .int .i64 0, .string ⟨#[]⟩, .bool false, .slice none 0 0, o, .int .i64 l, .int .i64 s]
abbrev s11 (k : Int) (nm tb : ByteArray) (c n r i f : Value) (a : Atom) (u : Value) (g : Value) (b : Atom) (h : Value) (o : Value) (l s : Int) : Array Value := #[.int .u8 k, .string nm, .string tb, c, n, r, i, f, .int .u8 (a.kind : Int), .int .u8 (a.op : Int), .string (strU a.table), .string (strU a.name), .int .u8 (a.vk : Int), .int .i64 a.vi, .string (strU a.vs), .bool a.star, u, g, .int .u8 (b.kind : Int), .int .u8 (b.op : Int), .string (strU b.table), .string (strU b.name), .int .u8 (b.vk : Int), .int .i64 b.vi, .string (strU b.vs), .bool b.star, h, o, .int .i64 l, .int .i64 s]
abbrev xA (x : StM) (a1 : Option Addr) (n1 c1 : Nat) (a2 : Option Addr) (n2 c2 : Nat) (a3 : Option Addr) (n3 c3 : Nat) (a4 : Option Addr) (n4 c4 : Nat) (a5 : Option Addr) (n5 c5 : Nat) (a6 : Option Addr) (n6 c6 : Nat) (a7 : Option Addr) (n7 c7 : Nat) (a8 : Option Addr) (n8 c8 : Nat) (a9 : Option Addr) (n9 c9 : Nat) : Array Value := #[.int .u8 (x.kind : Int), .string (strU x.name), .string (strU x.table), .slice a1 n1 c1, .slice a2 n2 c2, .slice a3 n3 c3, .slice a4 n4 c4, .slice a5 n5 c5, .int .u8 (x.cond.a.kind : Int), .int .u8 (x.cond.a.op : Int), .string (strU x.cond.a.table), .string (strU x.cond.a.name), .int .u8 (x.cond.a.vk : Int), .int .i64 x.cond.a.vi, .string (strU x.cond.a.vs), .bool x.cond.a.star, .slice a6 n6 c6, .slice a7 n7 c7, .int .u8 (x.having_.a.kind : Int), .int .u8 (x.having_.a.op : Int), .string (strU x.having_.a.table), .string (strU x.having_.a.name), .int .u8 (x.having_.a.vk : Int), .int .i64 x.having_.a.vi, .string (strU x.having_.a.vs), .bool x.having_.a.star, .slice a8 n8 c8, .slice a9 n9 c9, .int .i64 x.limit, .int .i64 x.skip]
section
set_option linter.unusedVariables false

def Exs.all (Q : List UInt8 → Prop) : Exs → Prop
  | .nil => True
  | .cons a l r => (Q a.table ∧ Q a.name ∧ Q a.vs) ∧ l.all Q ∧ r.all Q
def Ex.all (Q : List UInt8 → Prop) (x : Ex) : Prop := (Q x.a.table ∧ Q x.a.name ∧ Q x.a.vs) ∧ x.l.all Q
def St.all (Q : List UInt8 → Prop) (t : St) : Prop := ∀ x ∈ t.rest, Q x.s
def Al {α : Type} (Q : List UInt8 → Prop) (f : St → α × St) (R : α → Prop) : Prop := ∀ t : St, t.all Q → R (f t).1 ∧ (f t).2.all Q
theorem Exs.all_of {Q : List UInt8 → Prop} : ∀ l : List Ex, (∀ x ∈ l, x.all Q) → (Exs.ofL l).all Q
  | [], _ => trivial
  | x :: r, h => ⟨(h x (List.mem_cons_self ..)).1, (h x (List.mem_cons_self ..)).2, Exs.all_of r fun y hy => h y (List.mem_cons_of_mem _ hy)⟩
theorem Ex.all_cons {Q : List UInt8 → Prop} {x : Ex} (h : x.all Q) : (Exs.cons x.a x.l .nil).all Q := ⟨h.1, h.2, trivial⟩
theorem St.step_all {Q : List UInt8 → Prop} (h0 : Q []) {t : St} (h : t.all Q) : t.step.all Q := fun x hx => h x (List.mem_of_mem_tail hx)
section
variable {Q : List UInt8 → Prop} (h0 : Q [])
include h0
theorem noE_all : noE.all Q := ⟨⟨h0, h0, h0⟩, trivial⟩
theorem litE_all {k : Nat} {i : Int} {s : List UInt8} (h : Q s) : (litE k i s).all Q := ⟨⟨h0, h0, h⟩, trivial⟩
theorem colE_all {t n : List UInt8} (h : Q t) (h' : Q n) : (colE t n).all Q := ⟨⟨h, h', h0⟩, trivial⟩
theorem oneE_all {op : Nat} {x : Ex} (h : x.all Q) : (oneE op x).all Q := ⟨⟨h0, h0, h0⟩, Ex.all_cons h⟩
theorem twoE_all {op : Nat} {x y : Ex} (h : x.all Q) (h' : y.all Q) : (twoE op x y).all Q := ⟨⟨h0, h0, h0⟩, h.1, h.2, Ex.all_cons h'⟩
theorem inE_all {x : Ex} {l : List Ex} (h : x.all Q) (h' : ∀ y ∈ l, y.all Q) : (inE x l).all Q := ⟨⟨h0, h0, h0⟩, h.1, h.2, Exs.all_of l h'⟩
theorem callE_all {n : List UInt8} {b : Bool} {l : List Ex} (h : Q n) (h' : ∀ y ∈ l, y.all Q) : (callE n b l).all Q := ⟨⟨h0, h, h0⟩, Exs.all_of l h'⟩
theorem St.next_all {t : St} (h : t.all Q) : Q t.next.s := by
  unfold St.next
  split
  · exact h0
  · cases hr : t.rest with
    | nil => exact h0
    | cons x r => exact h x (by rw [hr]; exact List.mem_cons_self ..)
theorem St.need_all {t : St} {s : List UInt8} (h : t.all Q) : (t.need s).all Q := by
  unfold St.need; split
  · exact St.step_all h0 h
  · exact h
theorem nameP_all : Al Q nameP Q := fun t h => by
  unfold nameP; split
  · exact ⟨St.next_all h0 h, St.step_all h0 h⟩
  · exact ⟨h0, h⟩
theorem aliasP_all : Al Q aliasP Q := fun t h => by
  unfold aliasP; split
  · exact nameP_all h0 _ (St.step_all h0 h)
  · exact ⟨h0, h⟩
theorem numberP_all : Al Q numberP fun _ => True := fun t h => by
  unfold numberP; split
  · exact ⟨trivial, St.step_all h0 h⟩
  · exact ⟨trivial, h⟩
theorem phraseP_all (a b : List UInt8) : Al Q (phraseP a b) fun _ => True := fun t h => by
  unfold phraseP; split
  · exact ⟨trivial, St.need_all h0 (St.step_all h0 h)⟩
  · exact ⟨trivial, h⟩
theorem flagP_all (s : List UInt8) : Al Q (flagP s) fun _ => True := fun t h => by
  unfold flagP; split
  · exact ⟨trivial, St.step_all h0 h⟩
  · exact ⟨trivial, h⟩
theorem listL_all {α : Type} {f : St → α × St} {R : α → Prop} (hf : Al Q f R) : ∀ (k : Nat) (l : List α) (t : St), (∀ x ∈ l, R x) → t.all Q → (∀ x ∈ (listL f k l t).1, R x) ∧ (listL f k l t).2.all Q
  | 0, l, t, hl, h => ⟨hl, h⟩
  | k + 1, l, t, hl, h => by
    unfold listL; split
    · have h1 := hf _ (St.step_all h0 h)
      exact listL_all hf k _ _ (fun x hx => by
        rcases List.mem_append.1 hx with hx | hx
        · exact hl x hx
        · rw [List.mem_singleton.1 hx]; exact h1.1) h1.2
    · exact ⟨hl, h⟩
theorem listP_all {α : Type} {f : St → α × St} {R : α → Prop} (hf : Al Q f R) : Al Q (listP f) fun l => ∀ x ∈ l, R x := fun t h =>
  listL_all h0 hf _ _ _ (fun x hx => by rw [List.mem_singleton.1 hx]; exact (hf t h).1) (hf t h).2
theorem enclosedP_all {α : Type} {f : St → α × St} {R : α → Prop} (hf : Al Q f R) : Al Q (enclosedP f) fun l => ∀ x ∈ l, R x := fun t h =>
  ⟨(listP_all h0 hf _ (St.need_all h0 h)).1, St.need_all h0 (listP_all h0 hf _ (St.need_all h0 h)).2⟩
theorem opP_all (lv : Nat) : Al Q (opP lv) fun _ => True := fun t h => by
  unfold opP; split
  · exact ⟨trivial, h⟩
  · exact ⟨trivial, St.step_all h0 h⟩
theorem chainL_all {f : St → Ex × St} (lv : Nat) (hf : Al Q f (Ex.all Q)) : ∀ (k : Nat) (x : Ex) (t : St), x.all Q → t.all Q → (chainL lv f k x t).1.all Q ∧ (chainL lv f k x t).2.all Q
  | 0, x, t, hx, h => ⟨hx, h⟩
  | k + 1, x, t, hx, h => by
    unfold chainL; split
    · exact ⟨hx, h⟩
    · have h1 := hf _ (opP_all h0 lv t h).2
      exact chainL_all lv hf k _ _ (twoE_all h0 hx h1.1) h1.2
theorem chainP_all {f : St → Ex × St} (lv : Nat) (hf : Al Q f (Ex.all Q)) : Al Q (chainP lv f) (Ex.all Q) := fun t h => chainL_all h0 lv hf _ _ _ (hf t h).1 (hf t h).2
theorem preL_all {f : St → Ex × St} (s : List UInt8) (op : Nat) (hf : Al Q f (Ex.all Q)) : ∀ (k : Nat) (t : St), t.all Q → (preL s op f k t).1.all Q ∧ (preL s op f k t).2.all Q
  | 0, t, h => hf t h
  | k + 1, t, h => by
    unfold preL; split
    · have h1 := preL_all s op hf k _ (St.step_all h0 h)
      exact ⟨oneE_all h0 h1.1, h1.2⟩
    · exact hf t h
theorem preP_all {f : St → Ex × St} (s : List UInt8) (op : Nat) (hf : Al Q f (Ex.all Q)) : Al Q (preP s op f) (Ex.all Q) := fun t h => preL_all h0 s op hf _ t h
theorem compareP_all {self sum : St → Ex × St} (hf : Al Q self (Ex.all Q)) (hg : Al Q sum (Ex.all Q)) : Al Q (compareP self sum) (Ex.all Q) := fun t h => by
  have h1 := hg t h
  unfold compareP
  split
  · split
    · exact ⟨oneE_all h0 h1.1, St.need_all h0 (St.step_all h0 (St.step_all h0 h1.2))⟩
    · exact ⟨oneE_all h0 h1.1, St.need_all h0 (St.step_all h0 h1.2)⟩
  · split
    · have h2 := enclosedP_all h0 hf _ (St.step_all h0 h1.2)
      exact ⟨inE_all h0 h1.1 h2.1, h2.2⟩
    · split
      · exact h1
      · have h2 := hg _ (opP_all h0 3 _ h1.2).2
        exact ⟨twoE_all h0 h1.1 h2.1, h2.2⟩
theorem callP_all {self : St → Ex × St} (hf : Al Q self (Ex.all Q)) {n : List UInt8} (hn : Q n) : Al Q (callP self n) (Ex.all Q) := fun t h => by
  unfold callP
  split
  · exact ⟨callE_all h0 hn (fun y hy => by cases hy), St.step_all h0 h⟩
  · split
    · exact ⟨callE_all h0 hn (fun y hy => by cases hy), St.need_all h0 (St.step_all h0 h)⟩
    · exact ⟨callE_all h0 hn (listP_all h0 hf t h).1, St.need_all h0 (listP_all h0 hf t h).2⟩
theorem namedP_all {self : St → Ex × St} (hf : Al Q self (Ex.all Q)) : Al Q (namedP self) (Ex.all Q) := fun t h => by
  have h1 := nameP_all h0 t h
  unfold namedP
  split
  · have h2 := nameP_all h0 _ (St.step_all h0 h1.2)
    exact ⟨colE_all h0 h1.1 h2.1, h2.2⟩
  · split
    · exact callP_all h0 hf h1.1 _ (St.step_all h0 h1.2)
    · exact ⟨colE_all h0 h0 h1.1, h1.2⟩
theorem primaryP_all {self : St → Ex × St} (hf : Al Q self (Ex.all Q)) : Al Q (primaryP self) (Ex.all Q) := fun t h => by
  unfold primaryP
  split
  · exact ⟨litE_all h0 h0, St.step_all h0 h⟩
  · split
    · exact ⟨litE_all h0 (St.next_all h0 h), St.step_all h0 h⟩
    · split
      · exact ⟨litE_all h0 h0, St.step_all h0 h⟩
      · split
        · have h1 := hf _ (St.step_all h0 h)
          exact ⟨h1.1, St.need_all h0 h1.2⟩
        · exact namedP_all h0 hf t h
theorem exprN_all : ∀ k, Al Q (exprN k) (Ex.all Q)
  | 0 => fun t h => ⟨noE_all h0, h⟩
  | k + 1 => chainP_all h0 1 (chainP_all h0 2 (preP_all h0 _ _ (compareP_all h0 (exprN_all k) (chainP_all h0 4 (chainP_all h0 5 (preP_all h0 _ _ (primaryP_all h0 (exprN_all k))))))))
end

/-! ### Statements -/
structure StM.all (Q : List UInt8 → Prop) (x : StM) : Prop where
  name : Q x.name
  table : Q x.table
  columns : ∀ c ∈ x.columns, Q c.name
  names : ∀ c ∈ x.names, Q c
  rows : ∀ l ∈ x.rows, ∀ y ∈ l, y.all Q
  items : ∀ i ∈ x.items, Q i.aka ∧ i.e.all Q
  tables : ∀ f ∈ x.tables, Q f.table ∧ Q f.aka ∧ f.on.all Q
  cond : x.cond.all Q
  group : ∀ y ∈ x.group, y.all Q
  having_ : x.having_.all Q
  order : ∀ y ∈ x.order, y.e.all Q
section
variable {Q : List UInt8 → Prop} (h0 : Q [])
include h0
theorem noS_all : noS.all Q := ⟨h0, h0, fun c hc => (by cases hc), fun c hc => (by cases hc), fun c hc => (by cases hc), fun c hc => (by cases hc), fun c hc => (by cases hc), noE_all h0, fun c hc => (by cases hc), noE_all h0, fun c hc => (by cases hc)⟩
section
variable {self : Self} (hf : Al Q self (Ex.all Q))
include hf
theorem condP_all (s : List UInt8) : Al Q (condP self s) (Ex.all Q) := fun t h => by
  unfold condP; split
  · exact hf _ (St.step_all h0 h)
  · exact ⟨noE_all h0, h⟩
theorem itemP_all : Al Q (itemP self) (fun i => Q i.aka ∧ i.e.all Q) := fun t h =>
  ⟨⟨(aliasP_all h0 _ (hf t h).2).1, (hf t h).1⟩, (aliasP_all h0 _ (hf t h).2).2⟩
theorem itemsP_all : Al Q (itemsP self) (fun l => ∀ i ∈ l, Q i.aka ∧ i.e.all Q) := fun t h => by
  unfold itemsP; split
  · exact ⟨fun i hi => by rw [List.mem_singleton.1 hi]; exact ⟨h0, noE_all h0⟩, St.step_all h0 h⟩
  · exact listP_all h0 (itemP_all h0 hf) t h
omit hf in
theorem tableP_all : Al Q tableP (fun f => Q f.table ∧ Q f.aka ∧ f.on.all Q) := fun t h =>
  ⟨⟨(nameP_all h0 t h).1, (aliasP_all h0 _ (nameP_all h0 t h).2).1, noE_all h0⟩, (aliasP_all h0 _ (nameP_all h0 t h).2).2⟩
theorem joinP_all : Al Q (joinP self) (fun f => Q f.table ∧ Q f.aka ∧ f.on.all Q) := fun t h => by
  have h1 := tableP_all h0 t h
  have h2 := hf _ (St.need_all (s := wOn) h0 h1.2)
  exact ⟨⟨h1.1.1, h1.1.2.1, h2.1⟩, h2.2⟩
theorem tablesL_all : ∀ (k : Nat) (l : List FromM) (t : St), (∀ f ∈ l, Q f.table ∧ Q f.aka ∧ f.on.all Q) → t.all Q → (∀ f ∈ (tablesL self k l t).1, Q f.table ∧ Q f.aka ∧ f.on.all Q) ∧ (tablesL self k l t).2.all Q
  | 0, l, t, hl, h => ⟨hl, h⟩
  | k + 1, l, t, hl, h => by
    unfold tablesL; split
    · have h1 := joinP_all h0 hf _ (St.step_all h0 h)
      exact tablesL_all k _ _ (fun x hx => by
        rcases List.mem_append.1 hx with hx | hx
        · exact hl x hx
        · rw [List.mem_singleton.1 hx]; exact h1.1) h1.2
    · exact ⟨hl, h⟩
theorem tablesP_all : Al Q (tablesP self) (fun l => ∀ f ∈ l, Q f.table ∧ Q f.aka ∧ f.on.all Q) := fun t h =>
  tablesL_all h0 hf _ _ _ (fun x hx => by rw [List.mem_singleton.1 hx]; exact (tableP_all h0 t h).1) (tableP_all h0 t h).2
theorem orderP_all : Al Q (orderP self) (fun y => y.e.all Q) := fun t h => by
  have h1 := hf t h
  unfold orderP; split
  · exact ⟨h1.1, St.step_all h0 h1.2⟩
  · refine ⟨h1.1, ?_⟩
    show (if _ then _ else _ : St).all Q
    split
    · exact St.step_all h0 h1.2
    · exact h1.2
theorem rowP_all : Al Q (rowP self) (fun l => ∀ y ∈ l, y.all Q) := enclosedP_all h0 hf
theorem asgP_all : Al Q (asgP self) (fun a => Q a.name ∧ a.value.all Q) := fun t h => by
  have h1 := nameP_all h0 t h
  have h2 := hf _ (St.need_all (s := wEq) h0 h1.2)
  exact ⟨⟨h1.1, h2.1⟩, h2.2⟩
omit hf in
theorem typeP_all : Al Q typeP fun _ => True := fun t h => by
  unfold typeP; split
  · exact ⟨trivial, St.step_all h0 h⟩
  · split
    · exact ⟨trivial, St.step_all h0 h⟩
    · exact ⟨trivial, h⟩
omit hf in
theorem columnP_all : Al Q columnP (fun c => Q c.name) := fun t h => by
  have h1 := nameP_all h0 t h
  exact ⟨h1.1, (phraseP_all h0 _ _ _ (flagP_all h0 _ _ (phraseP_all h0 _ _ _ (typeP_all h0 _ h1.2).2).2).2).2⟩
theorem groupP_all : Al Q (groupP self) (fun g => (∀ y ∈ g.1, y.all Q) ∧ g.2.all Q) := fun t h => by
  have h1 := phraseP_all h0 wGroup wBy t h
  unfold groupP; dsimp only
  split
  · have h2 := listP_all h0 hf _ h1.2
    have h3 := condP_all h0 hf wHaving _ h2.2
    exact ⟨⟨h2.1, h3.1⟩, h3.2⟩
  · exact ⟨⟨fun y hy => (by cases hy), noE_all h0⟩, h1.2⟩
theorem ordersP_all : Al Q (ordersP self) (fun l => ∀ y ∈ l, y.e.all Q) := fun t h => by
  have h1 := phraseP_all h0 wOrder wBy t h
  unfold ordersP; dsimp only
  split
  · exact listP_all h0 (orderP_all h0 hf) _ h1.2
  · exact ⟨fun y hy => (by cases hy), h1.2⟩
omit hf in
theorem limitP_all : Al Q limitP fun _ => True := fun t h => by
  have h1 := numberP_all h0 _ (St.step_all h0 h)
  unfold limitP; split
  · split
    · exact ⟨trivial, (numberP_all h0 _ (St.step_all h0 h1.2)).2⟩
    · exact ⟨trivial, h1.2⟩
  · exact ⟨trivial, h⟩
theorem selectP_all : Al Q (selectP self) (StM.all Q) := fun t h => by
  unfold selectP; dsimp only
  have h1 := itemsP_all h0 hf t h
  generalize itemsP self t = i at h1 ⊢
  have h2 := tablesP_all h0 hf _ (St.need_all (s := wFrom) h0 h1.2)
  generalize tablesP self (i.2.need wFrom) = f at h2 ⊢
  have h3 := condP_all h0 hf wWhere _ h2.2
  generalize condP self wWhere f.2 = w at h3 ⊢
  have h4 := groupP_all h0 hf _ h3.2
  generalize groupP self w.2 = g at h4 ⊢
  have h5 := ordersP_all h0 hf _ h4.2
  generalize ordersP self g.2 = o at h5 ⊢
  have h6 := limitP_all h0 _ h5.2
  generalize limitP o.2 = l at h6 ⊢
  exact ⟨⟨h0, h0, fun c hc => (by cases hc), fun c hc => (by cases hc), fun c hc => (by cases hc), h1.1, h2.1, h3.1, h4.1.1, h4.1.2, h5.1⟩, h6.2⟩
theorem insertP_all : Al Q (insertP self) (StM.all Q) := fun t h => by
  unfold insertP; dsimp only
  have h1 := nameP_all h0 _ (St.need_all (s := wInto) h0 h)
  generalize nameP (t.need wInto) = n at h1 ⊢
  have h2 : (∀ x ∈ (if n.2.has wValues then (([] : List (List UInt8)), n.2.step) else ((enclosedP nameP n.2).1, (enclosedP nameP n.2).2.need wValues)).1, Q x) ∧ (if n.2.has wValues then (([] : List (List UInt8)), n.2.step) else ((enclosedP nameP n.2).1, (enclosedP nameP n.2).2.need wValues)).2.all Q := by
    split
    · exact ⟨fun x hx => (by cases hx), St.step_all h0 h1.2⟩
    · have h3 := enclosedP_all h0 (nameP_all h0) _ h1.2
      exact ⟨h3.1, St.need_all h0 h3.2⟩
  generalize (if n.2.has wValues then (([] : List (List UInt8)), n.2.step) else ((enclosedP nameP n.2).1, (enclosedP nameP n.2).2.need wValues)) = c at h2 ⊢
  have h3 := listP_all h0 (rowP_all h0 hf) _ h2.2
  generalize listP (rowP self) c.2 = r at h3 ⊢
  exact ⟨⟨h0, h1.1, fun c hc => (by cases hc), h2.1, h3.1, fun c hc => (by cases hc), fun c hc => (by cases hc), noE_all h0, fun c hc => (by cases hc), noE_all h0, fun c hc => (by cases hc)⟩, h3.2⟩
theorem updateP_all : Al Q (updateP self) (StM.all Q) := fun t h => by
  unfold updateP; dsimp only
  have h1 := nameP_all h0 t h
  generalize nameP t = n at h1 ⊢
  have h2 := listP_all h0 (asgP_all h0 hf) _ (St.need_all (s := wSet) h0 h1.2)
  generalize listP (asgP self) (n.2.need wSet) = a at h2 ⊢
  have h3 := condP_all h0 hf wWhere _ h2.2
  generalize condP self wWhere a.2 = w at h3 ⊢
  refine ⟨⟨h0, h1.1, fun c hc => (by cases hc), ?_, ?_, fun c hc => (by cases hc), fun c hc => (by cases hc), h3.1, fun c hc => (by cases hc), noE_all h0, fun c hc => (by cases hc)⟩, h3.2⟩
  · intro c hc
    obtain ⟨a, ha, rfl⟩ := List.mem_map.1 hc
    exact (h2.1 a ha).1
  · intro l hl y hy
    rw [List.mem_singleton.1 hl] at hy
    obtain ⟨a, ha, rfl⟩ := List.mem_map.1 hy
    exact (h2.1 a ha).2
theorem removeP_all : Al Q (removeP self) (StM.all Q) := fun t h => by
  have h1 := nameP_all h0 _ (St.need_all (s := wFrom) h0 h)
  have h3 := condP_all h0 hf wWhere _ h1.2
  exact ⟨⟨h0, h1.1, fun c hc => (by cases hc), fun c hc => (by cases hc), fun c hc => (by cases hc), fun c hc => (by cases hc), fun c hc => (by cases hc), h3.1, fun c hc => (by cases hc), noE_all h0, fun c hc => (by cases hc)⟩, h3.2⟩
omit hf in
theorem indexP_all : Al Q indexP (StM.all Q) := fun t h => by
  have h1 := nameP_all h0 t h
  have h2 := nameP_all h0 _ (St.need_all (s := wOn) h0 h1.2)
  have h3 := nameP_all h0 _ (St.need_all (s := wOpen) h0 h2.2)
  exact ⟨⟨h1.1, h2.1, fun c hc => (by cases hc), fun c hc => by rw [List.mem_singleton.1 hc]; exact h3.1, fun c hc => (by cases hc), fun c hc => (by cases hc), fun c hc => (by cases hc), noE_all h0, fun c hc => (by cases hc), noE_all h0, fun c hc => (by cases hc)⟩, St.need_all h0 h3.2⟩
omit hf in
theorem createP_all : Al Q createP (StM.all Q) := fun t h => by
  unfold createP; split
  · exact indexP_all h0 _ (St.step_all h0 h)
  · dsimp only
    have h1 := nameP_all h0 _ (St.need_all (s := wTable) h0 h)
    generalize nameP (t.need wTable) = n at h1 ⊢
    have h2 := enclosedP_all h0 (columnP_all h0) _ h1.2
    generalize enclosedP columnP n.2 = c at h2 ⊢
    exact ⟨⟨h0, h1.1, h2.1, fun c hc => (by cases hc), fun c hc => (by cases hc), fun c hc => (by cases hc), fun c hc => (by cases hc), noE_all h0, fun c hc => (by cases hc), noE_all h0, fun c hc => (by cases hc)⟩, h2.2⟩
omit hf in
theorem dropP_all : Al Q dropP (StM.all Q) := fun t h => by
  have h1 := nameP_all h0 _ (St.need_all (s := wTable) h0 h)
  exact ⟨⟨h0, h1.1, fun c hc => (by cases hc), fun c hc => (by cases hc), fun c hc => (by cases hc), fun c hc => (by cases hc), fun c hc => (by cases hc), noE_all h0, fun c hc => (by cases hc), noE_all h0, fun c hc => (by cases hc)⟩, h1.2⟩
theorem statementP_all : Al Q (statementP self) (StM.all Q) := fun t h => by
  have hs := St.step_all h0 h
  unfold statementP
  split
  · exact selectP_all h0 hf _ hs
  · split
    · exact insertP_all h0 hf _ hs
    · split
      · exact updateP_all h0 hf _ hs
      · split
        · exact removeP_all h0 hf _ hs
        · split
          · exact createP_all h0 _ hs
          · split
            · exact dropP_all h0 _ hs
            · exact ⟨noS_all h0, h⟩
end
end

/-! ### So texts in what is read are short -/
def Few (l : List UInt8) : Prop := l.length ≤ 5000
theorem sign_few : ∀ y ∈ signsB, y.length ≤ 2 := by decide +kernel
theorem fine_few {w : WordM} (h : FineW w) : w.s.length ≤ 5000 := by
  rcases h.kinds with k | k | k | k
  · have := (h.name k).2.2.1; omega
  · rw [(h.num k).1]; simp
  · have := (h.text k).1; omega
  · have := sign_few _ (h.sign k).1; omega
theorem ofB_few {s : List UInt8} {l : List WordM} (h : ofB s = .ok l) : l.length ≤ 800000 ∧ ∀ x ∈ l, x.s.length ≤ 5000 :=
  ⟨Nat.le_trans (ofB_len h) (by decide), fun x hx => fine_few (ofB_fine h x hx)⟩
theorem few_nil : Few [] := Nat.zero_le _
end
end Go.Proofs.YtenmnpbjnbdeaaaGreatDoor
