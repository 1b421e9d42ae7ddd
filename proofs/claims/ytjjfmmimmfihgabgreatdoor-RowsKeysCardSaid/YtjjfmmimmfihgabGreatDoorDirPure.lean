/-
  WHAT IS PROVED: plain mathematics of names in their order: the order of byte strings; where a name stands in a list of entries that rise; a disk as data, and what is done with it.
-/
import Derived.Lib.Bytealg
import Derived.RowKit3
import Derived.Below
namespace Go.Proofs.YtjjfmmimmfihgabGreatDoor
open Go.Lib

theorem cmpB_self : ∀ l : List UInt8, compareBytes l l = 0
  | [] => rfl
  | a :: r => by rw [compareBytes, if_neg (UInt8.lt_irrefl a), if_neg (UInt8.lt_irrefl a)]; exact cmpB_self r

theorem cmpB_eq : ∀ (a b : List UInt8), compareBytes a b = 0 → a = b
  | [], [], _ => rfl
  | [], _ :: _, h => by simp [compareBytes] at h
  | _ :: _, [], h => by simp [compareBytes] at h
  | x :: a, y :: b, h => by
    rw [compareBytes] at h
    split at h
    · simp at h
    · split at h
      · simp at h
      · rename_i h1 h2
        have : x = y := UInt8.le_antisymm (UInt8.not_lt.1 h2) (UInt8.not_lt.1 h1)
        rw [this, cmpB_eq a b h]

theorem cmpB_flip : ∀ (a b : List UInt8), compareBytes b a = - compareBytes a b
  | [], [] => rfl
  | [], _ :: _ => rfl
  | _ :: _, [] => rfl
  | x :: a, y :: b => by
    rw [compareBytes, compareBytes]
    by_cases h1 : x < y
    · rw [if_neg (UInt8.lt_asymm h1), if_pos h1, if_pos h1]; rfl
    · by_cases h2 : y < x
      · rw [if_pos h2, if_neg h1, if_pos h2]
      · rw [if_neg h2, if_neg h1, if_neg h1, if_neg h2]; exact cmpB_flip a b

theorem cmpB_trans : ∀ (a b c : List UInt8), compareBytes a b < 0 → compareBytes b c < 0 → compareBytes a c < 0
  | [], [], _, h, _ => by simp [compareBytes] at h
  | [], _ :: _, [], _, h => by simp [compareBytes] at h
  | [], _ :: _, _ :: _, _, _ => by simp [compareBytes]
  | _ :: _, [], _, h, _ => by simp [compareBytes] at h
  | _ :: _, _ :: _, [], _, h => by simp [compareBytes] at h
  | x :: a, y :: b, z :: c, h1, h2 => by
    rw [compareBytes] at h1 h2 ⊢
    by_cases xy : x < y
    · by_cases yz : y < z
      · rw [if_pos (UInt8.lt_trans xy yz)]; decide
      · by_cases zy : z < y
        · rw [if_neg yz, if_pos zy] at h2; simp at h2
        · have : y = z := UInt8.le_antisymm (UInt8.not_lt.1 zy) (UInt8.not_lt.1 yz)
          subst this
          rw [if_pos xy]; decide
    · by_cases yx : y < x
      · rw [if_neg xy, if_pos yx] at h1; simp at h1
      · have : x = y := UInt8.le_antisymm (UInt8.not_lt.1 yx) (UInt8.not_lt.1 xy)
        subst this
        rw [if_neg xy, if_neg yx] at h1
        by_cases yz : x < z
        · rw [if_pos yz]; decide
        · by_cases zy : z < x
          · rw [if_neg yz, if_pos zy] at h2; simp at h2
          · rw [if_neg yz, if_neg zy] at h2 ⊢
            exact cmpB_trans a b c h1 h2

/-- how two names stand -/
def cmpS (a b : ByteArray) : Int := compareBytes a.data.toList b.data.toList
theorem cmpS_self (a : ByteArray) : cmpS a a = 0 := cmpB_self _
theorem cmpS_eq {a b : ByteArray} (h : cmpS a b = 0) : a = b := by
  have := cmpB_eq _ _ h
  obtain ⟨⟨la⟩⟩ := a
  obtain ⟨⟨lb⟩⟩ := b
  simp at this
  rw [this]
theorem cmpS_flip (a b : ByteArray) : cmpS b a = - cmpS a b := cmpB_flip _ _
theorem cmpS_trans {a b c : ByteArray} (h1 : cmpS a b < 0) (h2 : cmpS b c < 0) : cmpS a c < 0 := cmpB_trans _ _ _ h1 h2

/-- entries: names, and which file each one leads to -/
abbrev Dir := List (ByteArray × Nat)
def Rise (l : Dir) : Prop := l.Pairwise fun a b => cmpS a.1 b.1 < 0

/-- how many stand ahead of a name -/
def place (l : Dir) (nm : ByteArray) : Nat := l.countP fun e => decide (cmpS e.1 nm < 0)
/-- does it stand there? -/
def there (l : Dir) (nm : ByteArray) : Bool := match l[place l nm]? with | some e => decide (cmpS e.1 nm = 0) | none => false

theorem place_le (l : Dir) (nm : ByteArray) : place l nm ≤ l.length := List.countP_le_length

theorem rise_get {l : Dir} (h : Rise l) {i j : Nat} {a b : ByteArray × Nat} (hij : i < j) (ha : l[i]? = some a) (hb : l[j]? = some b) : cmpS a.1 b.1 < 0 := by
  obtain ⟨h1, rfl⟩ := List.getElem?_eq_some_iff.1 ha
  obtain ⟨h2, rfl⟩ := List.getElem?_eq_some_iff.1 hb
  exact List.pairwise_iff_getElem.1 h i j h1 h2 hij

/-- a place that parts those ahead from the others is the place -/
theorem place_of : ∀ (l : Dir) (nm : ByteArray) (i : Nat), i ≤ l.length → (∀ t e, t < i → l[t]? = some e → cmpS e.1 nm < 0) → (∀ t e, i ≤ t → l[t]? = some e → ¬ cmpS e.1 nm < 0) → place l nm = i
  | [], nm, i, hi, _, _ => by simp at hi; simp [place, hi]
  | a :: r, nm, 0, _, _, h2 => by
    unfold place
    rw [List.countP_eq_zero]
    intro x hx
    obtain ⟨t, ht⟩ := List.getElem?_of_mem hx
    simpa using h2 t x (Nat.zero_le _) ht
  | a :: r, nm, i + 1, hi, h1, h2 => by
    have ha : decide (cmpS a.1 nm < 0) = true := by simpa using h1 0 a (Nat.succ_pos _) rfl
    have ih := place_of r nm i (by simpa using hi) (fun t e ht he => h1 (t + 1) e (by omega) (by simpa using he)) (fun t e ht he => h2 (t + 1) e (by omega) (by simpa using he))
    unfold place at ih ⊢
    rw [List.countP_cons, if_pos ha, ih]

theorem rise_ahead {l : Dir} (h : Rise l) (nm : ByteArray) : ∀ t e, t < place l nm → l[t]? = some e → cmpS e.1 nm < 0 := by
  -- those that stand ahead are the first ones
  induction l with
  | nil => intro t e ht he; simp at he
  | cons a r ih =>
    intro t e ht he
    have hr : Rise r := (List.pairwise_cons.1 h).2
    have ha := (List.pairwise_cons.1 h).1
    by_cases hc : cmpS a.1 nm < 0
    · unfold place at ht
      rw [List.countP_cons, if_pos (by simpa using hc)] at ht
      match t, he with
      | 0, he => simp at he; subst he; exact hc
      | t + 1, he => exact ih hr t e (by unfold place; omega) (by simpa using he)
    · exfalso
      have h0 : place (a :: r) nm = 0 := by
        unfold place
        rw [List.countP_eq_zero]
        intro x hx hx2
        have hx3 : cmpS x.1 nm < 0 := by simpa using hx2
        rcases List.mem_cons.1 hx with rfl | hm
        · exact hc hx3
        · exact hc (cmpS_trans (ha x hm) hx3)
      omega

theorem rise_behind {l : Dir} (h : Rise l) (nm : ByteArray) : ∀ t e, place l nm ≤ t → l[t]? = some e → ¬ cmpS e.1 nm < 0 := by
  intro t e ht he hc
  have hall : ∀ s, s ≤ t → ∀ x, l[s]? = some x → cmpS x.1 nm < 0 := by
    intro s hs x hx
    rcases Nat.lt_or_eq_of_le hs with hlt | rfl
    · exact cmpS_trans (rise_get h hlt hx he) hc
    · rw [hx] at he; cases he; exact hc
  have hlen := (List.getElem?_eq_some_iff.1 he).1
  have : t + 1 ≤ place l nm := by
    unfold place
    have h1 : (l.take (t + 1)).countP (fun e => decide (cmpS e.1 nm < 0)) = t + 1 := by
      rw [List.countP_eq_length.2]
      · simp; omega
      · intro x hx
        obtain ⟨s, hs⟩ := List.getElem?_of_mem hx
        rw [List.getElem?_take] at hs
        split at hs
        · simpa using hall s (by omega) x hs
        · simp at hs
    have h2 : l.countP (fun e => decide (cmpS e.1 nm < 0)) = (l.take (t + 1)).countP (fun e => decide (cmpS e.1 nm < 0)) + (l.drop (t + 1)).countP (fun e => decide (cmpS e.1 nm < 0)) := by
      rw [← List.countP_append, List.take_append_drop]
    omega
  omega

theorem there_iff {l : Dir} (h : Rise l) (nm : ByteArray) : there l nm = true ↔ ∃ e ∈ l, e.1 = nm := by
  unfold there
  constructor
  · intro hx
    split at hx
    · rename_i e he
      exact ⟨e, List.mem_of_getElem? he, cmpS_eq (by simpa using hx)⟩
    · simp at hx
  · rintro ⟨e, he, rfl⟩
    obtain ⟨k, hk⟩ := List.getElem?_of_mem he
    have : place l e.1 = k := place_of l e.1 k (by have := (List.getElem?_eq_some_iff.1 hk).1; omega) (fun t x ht hx => rise_get h ht hx hk) (fun t x ht hx => by
      rcases Nat.lt_or_eq_of_le ht with hlt | rfl
      · have := rise_get h hlt hk hx
        rw [cmpS_flip] at this
        omega
      · rw [hx] at hk; cases hk; rw [cmpS_self]; decide)
    rw [this, hk]
    simp [cmpS_self]

theorem place_at {l : Dir} (h : Rise l) {k : Nat} {e : ByteArray × Nat} (hk : l[k]? = some e) : place l e.1 = k ∧ there l e.1 = true :=
  ⟨place_of l e.1 k (by have := (List.getElem?_eq_some_iff.1 hk).1; omega) (fun t x ht hx => rise_get h ht hx hk) (fun t x ht hx => by
      rcases Nat.lt_or_eq_of_le ht with hlt | rfl
      · have := rise_get h hlt hk hx
        rw [cmpS_flip] at this
        omega
      · rw [hx] at hk; cases hk; rw [cmpS_self]; decide), (there_iff h e.1).2 ⟨e, List.mem_of_getElem? hk, rfl⟩⟩

theorem there_get {l : Dir} {nm : ByteArray} (h : there l nm = true) : ∃ e, l[place l nm]? = some e ∧ e.1 = nm := by
  unfold there at h
  split at h
  · rename_i e he
    exact ⟨e, he, cmpS_eq (by simpa using h)⟩
  · simp at h

/-- A name that is not there is laid in at its place: the list still rises. -/
theorem rise_insert {l : Dir} (h : Rise l) (nm : ByteArray) (f : Nat) (hn : there l nm = false) : Rise (l.take (place l nm) ++ (nm, f) :: l.drop (place l nm)) := by
  have hne : ∀ e ∈ l, e.1 ≠ nm := fun e he hc => by
    have := (there_iff h nm).2 ⟨e, he, hc⟩
    rw [hn] at this; simp at this
  unfold Rise at h ⊢
  rw [List.pairwise_append]
  refine ⟨h.sublist (List.take_sublist _ _), ?_, ?_⟩
  · rw [List.pairwise_cons]
    refine ⟨fun b hb => ?_, h.sublist (List.drop_sublist _ _)⟩
    obtain ⟨t, ht⟩ := List.getElem?_of_mem hb
    rw [List.getElem?_drop] at ht
    have h1 := rise_behind h nm _ b (Nat.le_add_right _ _) ht
    have h2 : cmpS b.1 nm ≠ 0 := fun hc => hne b (List.mem_of_getElem? ht) (cmpS_eq hc)
    show cmpS nm b.1 < 0
    rw [cmpS_flip b.1 nm]
    omega
  · intro a ha b hb
    obtain ⟨t, ht⟩ := List.getElem?_of_mem ha
    rw [List.getElem?_take] at ht
    split at ht
    · rename_i htl
      have h1 := rise_ahead h nm t a htl ht
      rcases List.mem_cons.1 hb with rfl | hb
      · exact h1
      · obtain ⟨s, hs⟩ := List.getElem?_of_mem hb
        rw [List.getElem?_drop] at hs
        exact rise_get h (by omega) ht hs
    · simp at ht

theorem rise_erase {l : Dir} (h : Rise l) (k : Nat) : Rise (l.eraseIdx k) := List.Pairwise.sublist (List.eraseIdx_sublist l k) h

theorem rise_set {l : Dir} (h : Rise l) {k : Nat} {e : ByteArray × Nat} (hk : l[k]? = some e) (f : Nat) : Rise (l.set k (e.1, f)) := by
  have hm : (l.set k (e.1, f)).map (·.1) = l.map (·.1) := by
    apply List.ext_getElem?
    intro j
    simp only [List.map_set, List.getElem?_map, List.getElem?_set, List.length_map]
    by_cases hj : k = j
    · subst hj
      obtain ⟨hl, he⟩ := List.getElem?_eq_some_iff.1 hk
      simp [hl, he]
    · simp [hj]
  have key : ∀ l' : Dir, Rise l' ↔ (l'.map (·.1)).Pairwise fun a b => cmpS a b < 0 := fun l' => by
    unfold Rise; rw [List.pairwise_map]
  rw [key, hm, ← key]
  exact h

/-- may a file have this name? -/
def okSign (c : UInt8) : Bool := (decide (97 ≤ c.toNat) && decide (c.toNat ≤ 122)) || (decide (48 ≤ c.toNat) && decide (c.toNat ≤ 57)) || decide (c.toNat = 45) || decide (c.toNat = 46)
def okName (s : ByteArray) : Bool := s.data.toList.all okSign && decide (0 < s.size) && decide (s.size ≤ 16)

/-- a file: its bytes, and how many of them are sure -/
structure FileM where
  bytes : List Nat
  sure : Nat

/-- a disk as data: a directory, a durable one, and all files that were ever made -/
structure DiskM where
  size : Nat
  now : Dir
  sure : Dir
  files : List FileM

def DiskM.file (M : DiskM) (f : Nat) : FileM := M.files.getD f ⟨[], 0⟩
/-- the file that a name leads to -/
def DiskM.of (M : DiskM) (nm : ByteArray) : Nat := (M.now.getD (place M.now nm) (nm, 0)).2
def DiskM.used (M : DiskM) : Nat := (M.now.map fun e => (M.file e.2).bytes.length).sum
def DiskM.left (M : DiskM) : Nat := M.size - M.used

/-- what is told of a name that is to be there: OK 0, ErrArg 1, ErrNone 7 -/
def DiskM.miss (M : DiskM) (nm : ByteArray) : Nat := if okName nm then (if there M.now nm then 0 else 7) else 1

def newE (n : Int) : Nat := if n < 1 ∨ 8388608 < n then 1 else 0
def newM (n : Nat) : DiskM := ⟨n, [], [], []⟩
def DiskM.createE (M : DiskM) (nm : ByteArray) : Nat := if okName nm then (if there M.now nm then 8 else if 64 ≤ M.now.length then 6 else 0) else 1
def lay (l : Dir) (nm : ByteArray) (f : Nat) : Dir := if there l nm then l.set (place l nm) (nm, f) else l.take (place l nm) ++ (nm, f) :: l.drop (place l nm)
def DiskM.createM (M : DiskM) (nm : ByteArray) : DiskM := if M.createE nm = 0 then { M with now := lay M.now nm M.files.length, files := M.files ++ [⟨[], 0⟩] } else M
def DiskM.removeM (M : DiskM) (nm : ByteArray) : DiskM := if M.miss nm = 0 then { M with now := M.now.eraseIdx (place M.now nm) } else M
def DiskM.renameE (M : DiskM) (nm to : ByteArray) : Nat := if okName nm && okName to then (if there M.now nm then 0 else 7) else 1
def DiskM.renameM (M : DiskM) (nm to : ByteArray) : DiskM := if M.renameE nm to = 0 then (if nm = to then M else { M with now := lay (M.now.eraseIdx (place M.now nm)) to (M.of nm) }) else M
def DiskM.appendE (M : DiskM) (nm : ByteArray) (n : Nat) : Nat := if M.miss nm = 0 then (if M.left < n ∨ 1048576 < (M.file (M.of nm)).bytes.length + n then 6 else 0) else M.miss nm
def DiskM.appendM (M : DiskM) (nm : ByteArray) (b : List Nat) : DiskM := if M.appendE nm b.length = 0 then { M with files := M.files.set (M.of nm) { M.file (M.of nm) with bytes := (M.file (M.of nm)).bytes ++ b } } else M
def DiskM.readE (M : DiskM) (nm : ByteArray) (at_ n : Int) : Nat := if okName nm ∧ 0 ≤ at_ ∧ 0 ≤ n then (if there M.now nm then (if ((M.file (M.of nm)).bytes.length : Int) < at_ + n then 5 else 0) else 7) else 1
def DiskM.readB (M : DiskM) (nm : ByteArray) (at_ n : Int) : List Nat := if M.readE nm at_ n = 0 then ((M.file (M.of nm)).bytes.drop at_.toNat).take n.toNat else []
def DiskM.sizeN (M : DiskM) (nm : ByteArray) : Nat := if M.miss nm = 0 then (M.file (M.of nm)).bytes.length else 0
def DiskM.syncM (M : DiskM) (nm : ByteArray) : DiskM := if M.miss nm = 0 then { M with files := M.files.set (M.of nm) { M.file (M.of nm) with sure := (M.file (M.of nm)).bytes.length } } else M
def DiskM.namesM (M : DiskM) : DiskM := { M with sure := M.now }
/-- what is left of a file -/
def FileM.left (f : FileM) (keep : Nat) : FileM := ⟨f.bytes.take (f.sure + keep), min f.bytes.length (f.sure + keep)⟩
def numbered (l : Dir) : Dir := (List.range l.length).map fun i => ((l.getD i (ByteArray.empty, 0)).1, i)
def DiskM.failM (M : DiskM) (keep : Nat) (names : Bool) : DiskM :=
  let l := if names then M.now else M.sure
  ⟨M.size, numbered l, numbered l, l.map fun e => (M.file e.2).left keep⟩

/-- what holds of a disk that calls made -/
structure DiskM.Fine (M : DiskM) : Prop where
  size : 1 ≤ M.size ∧ M.size ≤ 8388608
  rise : Rise M.now ∧ Rise M.sure
  few : M.now.length ≤ 64 ∧ M.sure.length ≤ 64
  id : ∀ e, e ∈ M.now ∨ e ∈ M.sure → e.2 < M.files.length ∧ okName e.1 = true
  file : ∀ f ∈ M.files, f.sure ≤ f.bytes.length ∧ f.bytes.length ≤ 1048576 ∧ ∀ x ∈ f.bytes, x < 256
end Go.Proofs.YtjjfmmimmfihgabGreatDoor
