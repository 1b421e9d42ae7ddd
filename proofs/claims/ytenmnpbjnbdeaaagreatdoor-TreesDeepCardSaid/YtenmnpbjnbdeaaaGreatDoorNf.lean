/-
  WHAT IS PROVED: a region that draws its order, whose calls may make memory and tell of it: what each operation tells, in whatever world it comes up, by the operations that it waits for alone. such a region, by a table of what each operation tells: a value, an expression, a row of them. the answers that the document fixes are told.
-/
import Derived.Test.YtenmnpbjnbdeaaaGreatDoorMa
import Derived.Test.YtenmnpbjnbdeaaaGreatDoorMj
import Derived.Test.YtenmnpbjnbdeaaaGreatDoorNe
namespace Go.Proofs.YtenmnpbjnbdeaaaGreatDoor
section
open Go.RowKit
set_option linter.unusedVariables false

/-- the operations that number i waits for -/
def waits (ops : Array Oper) (i : Nat) : List Nat := ((ops[i]?).map fun o => (o.after.toList.filter (Region.binds .any)).map (·.on)).getD []
/-- each waits for earlier ones alone; each has a slot of its own -/
def waitsOk (ops : Array Oper) : Bool := (List.range ops.size).all fun i => (waits ops i).all (fun j => decide (j < i)) && (match ops[i]? with
  | some o => o.dst.isSome && (List.range ops.size).all (fun j => j == i || (match ops[j]? with | some o' => o'.dst != o.dst | none => true))
  | none => true)
theorem waits_lt {ops : Array Oper} (h : waitsOk ops = true) {i j : Nat} (hi : i < ops.size) (hj : j ∈ waits ops i) : j < i := by
  unfold waitsOk at h
  rw [List.all_eq_true] at h
  have h1 := h i (List.mem_range.2 hi)
  rw [Bool.and_eq_true, List.all_eq_true] at h1
  exact of_decide_eq_true (h1.1 j hj)
theorem slot_own {ops : Array Oper} (h : waitsOk ops = true) {i j : Nat} {o o' : Oper} (hi : ops[i]? = some o) (hj : ops[j]? = some o') (hne : j ≠ i) : o'.dst ≠ o.dst := by
  unfold waitsOk at h
  rw [List.all_eq_true] at h
  have hlt := (Array.getElem?_eq_some_iff.1 hi).1
  have hlt' := (Array.getElem?_eq_some_iff.1 hj).1
  have h1 := h i (List.mem_range.2 hlt)
  rw [hi, Bool.and_eq_true, Bool.and_eq_true, List.all_eq_true] at h1
  have h3 := h1.2.2
  rw [List.all_eq_true] at h3
  have h2 := h3 j (List.mem_range.2 hlt')
  rw [hj] at h2
  simpa [hne] using h2
theorem slot_some {ops : Array Oper} (h : waitsOk ops = true) {i : Nat} {o : Oper} (hi : ops[i]? = some o) : ∃ d, o.dst = some d := by
  unfold waitsOk at h
  rw [List.all_eq_true] at h
  have h1 := h i (List.mem_range.2 (Array.getElem?_eq_some_iff.1 hi).1)
  rw [hi, Bool.and_eq_true, Bool.and_eq_true] at h1
  exact Option.isSome_iff_exists.1 h1.2.1
theorem put_at {a : Act} {d : Nat} {v : Value} (h : d < a.tmps.size) : (a.put (some d) v).tmps.getD d undef = v := by
  unfold Act.put
  simp [h]
theorem put_off {a : Act} {d k : Nat} {v : Value} (h : k ≠ d) : (a.put (some d) v).tmps.getD k undef = a.tmps.getD k undef := by
  unfold Act.put
  simp only [Array.getD_eq_getD_getElem?]
  rw [Array.getElem?_setIfInBounds_ne (fun e => h e.symm)]
/-- what a region's operations tell, and where the walk stands: the world, the frame, which are done -/
structure ToldR (ops : Array Oper) (Φ : Nat → Value → World → Prop) (a : Act) (w : World) (listed : Array Bool) (b : Act) (w1 : World) : Prop where
  below : Below w.heap.size w w1
  defers : b.defers = a.defers
  size : b.tmps.size = a.tmps.size
  out : ∀ (k : Nat), (∀ (j : Nat) (o' : Oper), ops[j]? = some o' → o'.dst ≠ some k) → b.tmps.getD k undef = a.tmps.getD k undef
  told : ∀ (j : Nat) (o' : Oper) (d : Nat), ops[j]? = some o' → o'.dst = some d → listed.getD j false = true → Φ j (b.tmps.getD d undef) w1
/-- what is asked of an operation -/
def Tells (P : Program) (ops : Array Oper) (Φ : Nat → Value → World → Prop) (Q : Exit → Act → World → Prop) (a : Act) (w : World) (i : Nat) (o : Oper) : Prop :=
  ∀ (b : Act) (w1 : World), Below w.heap.size w w1 → (∀ (k : Nat), (∀ (j : Nat) (o' : Oper), ops[j]? = some o' → o'.dst ≠ some k) → b.tmps.getD k undef = a.tmps.getD k undef) → b.tmps.size = a.tmps.size →
    (∀ j ∈ waits ops i, ∀ (o' : Oper) (d : Nat), ops[j]? = some o' → o'.dst = some d → Φ j (b.tmps.getD d undef) w1) →
    Region.wanted o (yielded ops b.tmps) = true ∧ ∀ K : Act → World → Prop, (∀ v w2, Φ i v w2 → Below w1.heap.size w1 w2 → K (b.put o.dst v) w2) → o.wp P b w1 K Q
theorem all_listed {ops : Array Oper} (hok : waitsOk ops = true) {listed : Array Bool} (hs : listed.size = ops.size) (h : Region.ready .any ops listed = []) : ∀ n i, i ≤ n → i < ops.size → listed.getD i false = true := by
  intro n
  induction n with
  | zero => 
    intro i hi hlt
    have h0 : i = 0 := by omega
    subst h0
    cases hl : listed.getD 0 false with
    | true => rfl
    | false =>
      exfalso
      have : 0 ∈ Region.ready .any ops listed := by
        unfold Region.ready
        rw [List.mem_filter]
        refine ⟨List.mem_range.2 hlt, ?_⟩
        have hl2 : listed.getD 0 true = false := by
          simp only [Array.getD_eq_getD_getElem?] at hl ⊢
          rw [Array.getElem?_eq_getElem (by omega)] at hl ⊢
          exact hl
        rw [hl2]
        obtain ⟨o, ho⟩ : ∃ o, ops[0]? = some o := ⟨_, Array.getElem?_eq_getElem hlt⟩
        rw [ho]
        simp only [Bool.not_false, Option.map_some, Option.getD_some, Bool.true_and]
        rw [Array.all_eq_true']
        intro e he
        rw [Bool.or_eq_true]
        by_cases hb : Region.binds .any e = true
        · have hw : e.on ∈ waits ops 0 := by
            unfold waits
            rw [ho]
            simp only [Option.map_some, Option.getD_some, List.mem_map, List.mem_filter]
            exact ⟨e, ⟨Array.mem_toList_iff.2 he, hb⟩, rfl⟩
          exact absurd (waits_lt hok hlt hw) (by omega)
        · left; simpa using hb
      rw [h] at this
      cases this
  | succ n ih =>
    intro i hi hlt
    by_cases hin : i ≤ n
    · exact ih i hin hlt
    cases hl : listed.getD i false with
    | true => rfl
    | false =>
      exfalso
      have : i ∈ Region.ready .any ops listed := by
        unfold Region.ready
        rw [List.mem_filter]
        refine ⟨List.mem_range.2 hlt, ?_⟩
        have hl2 : listed.getD i true = false := by
          simp only [Array.getD_eq_getD_getElem?] at hl ⊢
          rw [Array.getElem?_eq_getElem (by omega)] at hl ⊢
          exact hl
        rw [hl2]
        obtain ⟨o, ho⟩ : ∃ o, ops[i]? = some o := ⟨_, Array.getElem?_eq_getElem hlt⟩
        rw [ho]
        simp only [Bool.not_false, Option.map_some, Option.getD_some, Bool.true_and]
        rw [Array.all_eq_true']
        intro e he
        rw [Bool.or_eq_true]
        by_cases hb : Region.binds .any e = true
        · have hw : e.on ∈ waits ops i := by
            unfold waits
            rw [ho]
            simp only [Option.map_some, Option.getD_some, List.mem_map, List.mem_filter]
            exact ⟨e, ⟨Array.mem_toList_iff.2 he, hb⟩, rfl⟩
          have hlt2 := waits_lt hok hlt hw
          right
          exact ih e.on (by omega) (by omega)
        · left; simpa using hb
      rw [h] at this
      cases this
def undone (listed : Array Bool) : Nat := listed.toList.count false
theorem undone_set {listed : Array Bool} {i : Nat} (hi : i < listed.size) (h : listed.getD i true = false) : undone (listed.setIfInBounds i true) + 1 = undone listed := by
  unfold undone
  rw [Array.toList_setIfInBounds]
  have hb : listed.toList[i]'(by simpa using hi) = false := by
    simp only [Array.getD_eq_getD_getElem?] at h
    rw [Array.getElem?_eq_getElem hi] at h
    simpa using h
  have hlt : i < listed.toList.length := by simpa using hi
  have key : ∀ (l : List Bool) (i : Nat) (h : i < l.length), l[i] = false → (l.set i true).count false + 1 = l.count false := by
    intro l
    induction l with
    | nil => intro i h; simp at h
    | cons x l ih =>
      intro i h hx
      cases i with
      | zero => simp at hx; subst hx; simp
      | succ i =>
        simp only [List.set_cons_succ, List.count_cons]
        have := ih i (by simpa using h) (by simpa using hx)
        omega
  exact key _ _ hlt hb
theorem rel_go {P : Program} {ops : Array Oper} {Φ : Nat → Value → World → Prop} {Q : Exit → Act → World → Prop} {a : Act} {w : World}
    (hok : waitsOk ops = true) (hsz : ∀ (i : Nat) (o : Oper) (d : Nat), ops[i]? = some o → o.dst = some d → d < a.tmps.size)
    (hst : ∀ i v w w', Φ i v w → Below w.heap.size w w' → Φ i v w')
    (hob : ∀ (i : Nat) (o : Oper), ops[i]? = some o → Tells P ops Φ Q a w i o)
    (hend : ∀ b w1, ToldR ops Φ a w (Array.replicate ops.size true) b w1 → Q .normal b w1) :
    ∀ (fuel : Nat) (listed : Array Bool) (b : Act) (w1 : World), listed.size = ops.size → undone listed ≤ fuel → ToldR ops Φ a w listed b w1 → wpAny P .any ops Q fuel listed b w1 := by
  have hfin : ∀ (listed : Array Bool) (b : Act) (w1 : World), listed.size = ops.size → ToldR ops Φ a w listed b w1 → Region.ready .any ops listed = [] → Q .normal b w1 := by
    intro listed b w1 hs ht hr
    refine hend b w1 ⟨ht.below, ht.defers, ht.size, ht.out, fun j o' d hj hd _ => ht.told j o' d hj hd ?_⟩
    exact all_listed hok hs hr j j (Nat.le_refl _) (Array.getElem?_eq_some_iff.1 hj).1
  intro fuel
  induction fuel with
  | zero =>
    intro listed b w1 hs hu ht
    have hall : Region.ready .any ops listed = [] := by
      unfold Region.ready
      rw [List.filter_eq_nil_iff]
      intro i hi
      have hlt := List.mem_range.1 hi
      have : listed.getD i true = true := by
        cases hl : listed.getD i true with
        | true => rfl
        | false =>
          have := undone_set (by omega) hl
          omega
      rw [this]
      simp
    exact ⟨hall, hfin listed b w1 hs ht hall⟩
  | succ fuel ih =>
    intro listed b w1 hs hu ht
    refine ⟨hfin listed b w1 hs ht, fun i hi => ?_⟩
    have hi0 := hi
    unfold Region.ready at hi
    rw [List.mem_filter] at hi
    obtain ⟨hi1, hi2⟩ := hi
    have hlt := List.mem_range.1 hi1
    obtain ⟨o, ho⟩ : ∃ o, ops[i]? = some o := ⟨_, Array.getElem?_eq_getElem hlt⟩
    rw [ho] at hi2
    simp only [Option.map_some, Option.getD_some, Bool.and_eq_true, Bool.not_eq_true'] at hi2
    obtain ⟨hl, hdeps⟩ := hi2
    rw [Array.all_eq_true'] at hdeps
    obtain ⟨d, hd⟩ := slot_some hok ho
    obtain ⟨hw, hk⟩ := hob i o ho b w1 ht.below ht.out ht.size (fun j hj o' d' ho' hd' => ht.told j o' d' ho' hd' (by
      unfold waits at hj
      rw [ho] at hj
      simp only [Option.map_some, Option.getD_some, List.mem_map, List.mem_filter] at hj
      obtain ⟨e, ⟨he, hb⟩, rfl⟩ := hj
      have := hdeps e (Array.mem_toList_iff.1 he)
      rw [hb] at this
      simpa using this))
    unfold wpOp
    rw [ho]
    dsimp only
    rw [if_pos hw]
    refine .inl (hk _ fun v w2 hv hb2 => ih _ _ _ (by simp [hs]) (by have := undone_set (by omega) hl; omega) ⟨ht.below.trans (hb2.mono ht.below.size), ?_, ?_, ?_, ?_⟩)
    · rw [hd]; exact ht.defers
    · rw [hd]; unfold Act.put; simp [ht.size]
    · intro k hkk
      rw [hd, put_off (fun e => hkk i o ho (by rw [hd, e]))]
      exact ht.out k hkk
    · intro j o' d' ho' hd' hlj
      by_cases hji : j = i
      · subst hji
        rw [ho] at ho'
        injection ho' with ho'
        subst ho'
        rw [hd] at hd'
        injection hd' with hd'
        subst hd'
        rw [hd, put_at (by rw [ht.size]; exact hsz j o d ho hd)]
        exact hv
      · have hne : d' ≠ d := fun e => slot_own hok ho ho' hji (by rw [hd', hd, e])
        rw [hd, put_off hne]
        refine hst j _ w1 w2 (ht.told j o' d' ho' hd' ?_) hb2
        simp only [Array.getD_eq_getD_getElem?] at hlj ⊢
        rwa [Array.getElem?_setIfInBounds_ne (fun e => hji e.symm)] at hlj
/-- A REGION THAT DRAWS ITS ORDER, BY WHAT EACH OPERATION TELLS -/
theorem wp_region_rel {P : Program} {id : Nat} {ops : Array Oper} {Q : Exit → Act → World → Prop} {a : Act} {w : World} (Φ : Nat → Value → World → Prop)
    (hm : P.follows .mixedOrders = true) (hok : waitsOk ops = true) (hsz : ∀ (i : Nat) (o : Oper) (d : Nat), ops[i]? = some o → o.dst = some d → d < a.tmps.size)
    (hst : ∀ i v w w', Φ i v w → Below w.heap.size w w' → Φ i v w')
    (hob : ∀ (i : Nat) (o : Oper), ops[i]? = some o → Tells P ops Φ Q a w i o)
    (hend : ∀ b w1, ToldR ops Φ a w (Array.replicate ops.size true) b w1 → Q .normal b w1) : (Code.region id ops true).wp P Q a w := by
  refine wp_region_any hm (rel_go hok hsz hst hob hend ops.size _ a w.drew (by simp) ?_ ⟨(Below.refl _ _).drew, rfl, rfl, fun _ _ => rfl, fun j o' d hj hd hl => ?_⟩)
  · unfold undone
    exact Nat.le_trans (List.count_le_length) (by simp)
  · exfalso
    simp only [Array.getD_eq_getD_getElem?] at hl
    by_cases h : j < ops.size
    · rw [Array.getElem?_replicate, if_pos h] at hl; simp at hl
    · rw [Array.getElem?_replicate, if_neg h] at hl; simp at hl
end
section
open Go.RowKit Go.Shelf
set_option linter.unusedVariables false

/-- what an operation tells -/
inductive Fact7 where
  | val (v : Value)
  | ex (x : Ex)
  | row (l : List Ex)
def Fact7.ok : Fact7 → Value → World → Prop
  | .val c, v, _ => v = c
  | .ex x, v, w => ∃ u, v = exVal x.a u ∧ REs (fun _ => True) w u x.l
  | .row l, v, w => REs (fun _ => True) w v (Exs.ofL l)
def Fact7.isB : Fact7 → Bool → Bool
  | .val (.bool b), c => b == c
  | _, _ => false
theorem Fact7.kept : ∀ {f : Fact7} {v : Value} {w w' : World}, f.ok v w → Below w.heap.size w w' → f.ok v w'
  | .val _, _, _, _, h, _ => h
  | .ex _, _, _, _, ⟨u, h1, h2⟩, hb => ⟨u, h1, h2.below hb⟩
  | .row _, _, _, _, h, hb => REs.below h hb
theorem Fact7.bool {f : Fact7} {b : Bool} {v : Value} {w : World} (h : f.isB b = true) (hv : f.ok v w) : v = .bool b := by
  unfold Fact7.isB at h
  split at h
  · rename_i d
    have : d = b := by simpa using h
    subst this
    exact hv
  · cases h
def factAt (F : List Fact7) (i : Nat) : Fact7 := F.getD i (.val undef)
/-- the table fits: what each looks at it waits for; guards say yes; what is looked at from outside is not written -/
def tabFits (ops : Array Oper) (F : List Fact7) (tbl : List (List (Nat × Nat))) (outs : List Nat) (n : Nat) : Bool :=
  (List.range ops.size).all fun i => match ops[i]? with
    | none => true
    | some o => (tbl.getD i []).all (fun p => (waits ops i).contains p.1 && (match ops[p.1]? with | some o' => o'.dst == some p.2 | none => false)) &&
        ((match o.dst with | some d => decide (d < n) && outs.all (fun k => k != d) | none => true) &&
        (match o.guard with | none => true | some (j, c) => (waits ops i).contains j && (match ops[j]? with | some o' => o'.dst.isSome | none => false) && (factAt F j).isB c))
/-- what is asked of each operation -/
def TabTells (P : Program) (F : List Fact7) (Q : Exit → Act → World → Prop) (a : Act) (w : World) (tbl : List (List (Nat × Nat))) (outs : List Nat) : Nat → List Oper → Prop
  | _, [] => True
  | i, o :: r => (∀ (b : Act) (w1 : World), Below w.heap.size w w1 → (∀ k ∈ outs, b.tmps.getD k undef = a.tmps.getD k undef) → (∀ p ∈ tbl.getD i [], (factAt F p.1).ok (b.tmps.getD p.2 undef) w1) →
      ∀ K : Act → World → Prop, (∀ v w2, (factAt F i).ok v w2 → Below w1.heap.size w1 w2 → K (b.put o.dst v) w2) → o.wp P b w1 K Q) ∧ TabTells P F Q a w tbl outs (i + 1) r
theorem TabTells.at_ {P : Program} {F : List Fact7} {Q : Exit → Act → World → Prop} {a : Act} {w : World} {tbl : List (List (Nat × Nat))} {outs : List Nat} : ∀ {l : List Oper} {k j : Nat} {o : Oper}, TabTells P F Q a w tbl outs k l → l[j]? = some o →
    ∀ (b : Act) (w1 : World), Below w.heap.size w w1 → (∀ k ∈ outs, b.tmps.getD k undef = a.tmps.getD k undef) → (∀ p ∈ tbl.getD (k + j) [], (factAt F p.1).ok (b.tmps.getD p.2 undef) w1) →
      ∀ K : Act → World → Prop, (∀ v w2, (factAt F (k + j)).ok v w2 → Below w1.heap.size w1 w2 → K (b.put o.dst v) w2) → o.wp P b w1 K Q
  | [], _, _, _, _, h => by simp at h
  | o' :: l, k, 0, o, h, he => by
    have : o' = o := by simpa using he
    subst this
    exact h.1
  | o' :: l, k, j + 1, o, h, he => by
    have := TabTells.at_ h.2 (j := j) (o := o) (by simpa using he)
    rw [Nat.add_assoc, Nat.add_comm 1 j] at this
    exact this
theorem wp_region_tab {P : Program} {id : Nat} {l : List Oper} {Q : Exit → Act → World → Prop} {a : Act} {w : World} (F : List Fact7) (tbl : List (List (Nat × Nat))) (outs : List Nat)
    (hm : P.follows .mixedOrders = true) (hok : waitsOk l.toArray = true) (hfit : tabFits l.toArray F tbl outs a.tmps.size = true)
    (hob : TabTells P F Q a w tbl outs 0 l)
    (hend : ∀ b w1, Below w.heap.size w w1 → b.defers = a.defers → b.tmps.size = a.tmps.size → (∀ (j : Nat) (o : Oper) (d : Nat), l[j]? = some o → o.dst = some d → (factAt F j).ok (b.tmps.getD d undef) w1) → Q .normal b w1) :
    (Code.region id l.toArray true).wp P Q a w := by
  have hf : ∀ i o, l[i]? = some o → (∀ p ∈ tbl.getD i [], p.1 ∈ waits l.toArray i ∧ ∃ o', l[p.1]? = some o' ∧ o'.dst = some p.2) ∧ (∀ d, o.dst = some d → d < a.tmps.size ∧ ∀ k ∈ outs, k ≠ d) ∧ (∀ j c, o.guard = some (j, c) → j ∈ waits l.toArray i ∧ (∃ o' d, l[j]? = some o' ∧ o'.dst = some d) ∧ (factAt F j).isB c = true) := by
    intro i o ho
    unfold tabFits at hfit
    rw [List.all_eq_true] at hfit
    have hlt : i < l.length := (List.getElem?_eq_some_iff.1 ho).1
    have h1 := hfit i (List.mem_range.2 (by simpa using hlt))
    have ho2 : l.toArray[i]? = some o := by simpa using ho
    rw [ho2] at h1
    dsimp only at h1
    rw [Bool.and_eq_true, Bool.and_eq_true, List.all_eq_true] at h1
    obtain ⟨q1, q2, q3⟩ := h1
    refine ⟨fun p hp => ?_, fun d hd => ?_, fun j c hg => ?_⟩
    · have h := q1 p hp
      rw [Bool.and_eq_true] at h
      refine ⟨by simpa using h.1, ?_⟩
      have h2 := h.2
      cases e : l.toArray[p.1]? with
      | none => rw [e] at h2; cases h2
      | some o' => rw [e] at h2; exact ⟨o', by simpa using e, by simpa using h2⟩
    · rw [hd] at q2
      dsimp only at q2
      rw [Bool.and_eq_true, List.all_eq_true] at q2
      exact ⟨of_decide_eq_true q2.1, fun k hk => by simpa using q2.2 k hk⟩
    · rw [hg] at q3
      dsimp only at q3
      rw [Bool.and_eq_true, Bool.and_eq_true] at q3
      refine ⟨by simpa using q3.1.1, ?_, q3.2⟩
      have h2 := q3.1.2
      cases e : l.toArray[j]? with
      | none => rw [e] at h2; cases h2
      | some o' =>
        rw [e] at h2
        obtain ⟨d, hd⟩ := Option.isSome_iff_exists.1 h2
        exact ⟨o', d, by simpa using e, hd⟩
  refine wp_region_rel (fun i => (factAt F i).ok) hm hok (fun i o d ho hd => ((hf i o (by simpa using ho)).2.1 d hd).1) (fun i v w w' h hb => Fact7.kept h hb) (fun i o ho => ?_) (fun b w1 ht => ?_)
  · have ho' : l[i]? = some o := by simpa using ho
    obtain ⟨h1, h2, h3⟩ := hf i o ho'
    intro b w1 hb hout hsz hdep
    constructor
    · unfold Region.wanted
      cases hg : o.guard with
      | none => rfl
      | some g =>
        obtain ⟨j, c⟩ := g
        obtain ⟨hj, ⟨o', d, ho2, hd⟩, hB⟩ := h3 j c hg
        have hv := Fact7.bool hB (hdep j hj o' d (by simpa using ho2) hd)
        dsimp only
        unfold yielded
        rw [show l.toArray[j]? = some o' by simpa using ho2, Option.bind_some, hd, Option.bind_some]
        simp only [Array.getD_eq_getD_getElem?] at hv
        cases e : b.tmps[d]? with
        | none => rw [e] at hv; cases hv
        | some u =>
          rw [e] at hv
          simp only [Option.getD_some] at hv
          subst hv
          simp
    · intro K hK
      have := hob.at_ ho' b w1 hb (fun k hk => hout k (fun j o2 ho2 hd2 => ((hf j o2 (by simpa using ho2)).2.1 k hd2).2 k hk rfl)) (fun p hp => by
        rw [Nat.zero_add] at hp
        obtain ⟨hw, o2, ho2, hd2⟩ := h1 p hp
        exact hdep p.1 hw o2 p.2 (by simpa using ho2) hd2) K
      rw [Nat.zero_add] at this
      exact this hK
  · exact hend b w1 ht.below ht.defers ht.size (fun j o d ho hd => ht.told j o d (by simpa using ho) hd (by
      have hlt : j < l.length := (List.getElem?_eq_some_iff.1 ho).1
      simp only [Array.getD_eq_getD_getElem?]
      rw [Array.getElem?_replicate, if_pos (by simpa using hlt)]
      rfl))
end
section
open Go.RowKit Go.Shelf
set_option linter.unusedVariables false

set_option maxRecDepth 20000 in
theorem alive_a1 : exprB [97, 32, 43, 32, 98, 32, 42, 32, 45, 50] = .ok (twoE 5 (colE [] [97]) (twoE 7 (colE [] [98]) (oneE 1 (litE 1 2 [])))) := by kernel_rfl
set_option maxRecDepth 20000 in
theorem alive_a2 : exprB [78, 79, 84, 32, 97, 32, 73, 78, 32, 40, 49, 44, 32, 39, 120, 39, 41] = .ok (oneE 2 (inE (colE [] [97]) [litE 1 1 [], litE 2 0 [120]])) := by kernel_rfl
set_option maxRecDepth 20000 in
theorem alive_a3 : exprB [116, 46, 97, 32, 73, 83, 32, 78, 79, 84, 32, 78, 85, 76, 76] = .ok (oneE 4 (colE [116] [97])) := by kernel_rfl
set_option maxRecDepth 20000 in
theorem alive_s1 : stmtB [83, 69, 76, 69, 67, 84, 32, 42, 32, 70, 82, 79, 77, 32, 116, 32, 76, 73, 77, 73, 84, 32, 51] = .ok ⟨7, [], [], [], [], [], [⟨noE, [], true⟩], [⟨[116], [], noE⟩], noE, [], noE, [], 3, 0⟩ := by kernel_rfl
set_option maxRecDepth 20000 in
theorem alive_b1 : stmtB [68, 69, 76, 69, 84, 69, 32, 70, 82, 79, 77, 32, 116, 32, 87, 72, 69, 82, 69] = .bad 19 4 := by kernel_rfl
set_option maxRecDepth 20000 in
theorem alive_b2 : stmtB [83, 69, 76, 69, 67, 84, 32, 97, 32, 61, 32, 98, 32, 61, 32, 99, 32, 70, 82, 79, 77, 32, 116] = .bad 13 4 := by kernel_rfl
set_option maxRecDepth 20000 in
theorem alive_b3 : stmtB [68, 82, 79, 80, 32, 116] = .bad 5 4 := by kernel_rfl
theorem two_deps {F : List Fact7} {b : Act} {w : World} {p q : Nat × Nat} (h : ∀ r ∈ [p, q], (factAt F r.1).ok (b.tmps.getD r.2 undef) w) : (factAt F p.1).ok (b.tmps.getD p.2 undef) w ∧ (factAt F q.1).ok (b.tmps.getD q.2 undef) w := ⟨h p (by simp), h q (by simp)⟩
theorem one_dep {F : List Fact7} {b : Act} {w : World} {p : Nat × Nat} (h : ∀ r ∈ [p], (factAt F r.1).ok (b.tmps.getD r.2 undef) w) : (factAt F p.1).ok (b.tmps.getD p.2 undef) w := h p (by simp)
theorem three_deps {F : List Fact7} {b : Act} {w : World} {p q s : Nat × Nat} (h : ∀ r ∈ [p, q, s], (factAt F r.1).ok (b.tmps.getD r.2 undef) w) : (factAt F p.1).ok (b.tmps.getD p.2 undef) w ∧ (factAt F q.1).ok (b.tmps.getD q.2 undef) w ∧ (factAt F s.1).ok (b.tmps.getD s.2 undef) w := ⟨h p (by simp), h q (by simp), h s (by simp)⟩
set_option maxRecDepth 100000 in
set_option maxHeartbeats 40000000 in
theorem alive_yes7 (w : World) (hw : Wo w) : Calls Tryz.prog 11 #[] w fun e w' => e = .returned (.bool true) ∧ Below w.heap.size w w' := by
  obtain ⟨x, hst, hit, hli, hsk⟩ : ∃ x : StM, stmtB [83, 69, 76, 69, 67, 84, 32, 42, 32, 70, 82, 79, 77, 32, 116, 32, 76, 73, 77, 73, 84, 32, 51] = .ok x ∧ x.items = [⟨noE, [], true⟩] ∧ x.limit = 3 ∧ x.skip = 0 := ⟨_, alive_s1, rfl, rfl, rfl⟩
  have hC := fun W (hb : Below w.heap.size w W) => stmt_any ⟨#[83, 69, 76, 69, 67, 84, 32, 42, 32, 70, 82, 79, 77, 32, 116, 32, 76, 73, 77, 73, 84, 32, 51]⟩ W (hw.kept hb)
  rw [show (⟨#[83, 69, 76, 69, 67, 84, 32, 42, 32, 70, 82, 79, 77, 32, 116, 32, 76, 73, 77, 73, 84, 32, 51]⟩ : ByteArray).data.toList = [83, 69, 76, 69, 67, 84, 32, 42, 32, 70, 82, 79, 77, 32, 116, 32, 76, 73, 77, 73, 84, 32, 51] from rfl, hst] at hC
  obtain ⟨hall, hchk⟩ := stmtB_all hst
  go_enter Tryz.func11, Tryz.ntmps11
  go_wp2_with fail
  refine (hC _ (below_alloc _ _)).mono ?_
  rintro e w1 ⟨⟨v1, v2, v3, v4, v5, v6, v7, v8, v9, rfl, hs⟩, hb⟩
  have HX1 := Lib.hid ((hb.block w.heap.size (by simp)).trans (heap_alloc_new w _))
  have HB := Lib.hid ((below_alloc w (.cells #[.int .u8 1, .int .u8 0, .string ⟨#[]⟩, .string ⟨#[]⟩, .int .u8 2, .int .i64 0, .string ⟨#[120]⟩, .bool false, .slice none 0 0] 36)).trans (hb.mono (by simp)))
  have hi := hs.hi
  rw [hit] at hi
  rcases hi with ⟨_, h⟩ | ⟨g, cap, css, e4, _, _, _, hg, h5, h6⟩
  · cases h
  obtain ⟨cs, ⟨u, rfl, _⟩, hrg⟩ := row_at (d := []) (r := []) h5 h6 rfl
  have hstar : w1.cell? ⟨g, 10, none⟩ = some (.bool true) := by have := hrg 10 _ rfl; simpa using this
  have HS := Lib.hid (hs.mono (Q := fun _ => True) (fun _ _ _ => trivial))
  obtain ⟨a1, n1, c1, a2, n2, c2, a3, n3, c3, a4, n4, c4, a5, n5, c5, a6, n6, c6, a7, n7, c7, a8, n8, c8, a9, n9, c9, ⟨rfl, rfl, rfl, rfl, rfl, rfl, rfl, rfl, rfl⟩, _⟩ := hs.lens
  change _ = Value.slice (some ⟨g, 0, none⟩) 1 cap at e4
  injection e4 with e4a e4b e4c
  subst e4a e4b e4c
  have hCk : ∀ W, Below w1.heap.size w1 W → Calls Tryz.prog 13 #[.agg (s11 ((x.kind : Int)) ((strU x.name)) ((strU x.table)) (.slice a1 n1 c1) (.slice a2 n2 c2) (.slice a3 n3 c3) (.slice (some ⟨g, 0, none⟩) 1 c4) (.slice a5 n5 c5) x.cond.a (.slice a6 n6 c6) (.slice a7 n7 c7) x.having_.a (.slice a8 n8 c8) (.slice a9 n9 c9) 3 0)] W fun e w' => e = .returned (.bool true) ∧ Below W.heap.size W w' := fun W hW => by
    have q := check_may x (.slice a1 n1 c1) (.slice a2 n2 c2) (.slice a3 n3 c3) (.slice (some ⟨g, 0, none⟩) 1 c4) (.slice a5 n5 c5) (.slice a6 n6 c6) (.slice a7 n7 c7) (.slice a8 n8 c8) (.slice a9 n9 c9) W (HS.out.kept hW.size (fun k _ hk => hW.block k hk)) hall
    rw [hchk] at q
    unfold stArr at q
    rw [hli, hsk] at q
    exact q
  unfold stArr
  rw [hli, hsk]
  obtain ⟨w2, hw2⟩ : ∃ w2, w2 = (w1.alloc (.cells (s00 0 z0 z0 nS nS nS nS nS nS nS 0 0) 39)).setRow w1.heap.size (s11 ((x.kind : Int)) ((strU x.name)) ((strU x.table)) (.slice a1 n1 c1) (.slice a2 n2 c2) (.slice a3 n3 c3) (.slice (some ⟨g, 0, none⟩) 1 c4) (.slice a5 n5 c5) x.cond.a (.slice a6 n6 c6) (.slice a7 n7 c7) x.having_.a (.slice a8 n8 c8) (.slice a9 n9 c9) 3 0) := ⟨_, rfl⟩
  have hb2 : Below w1.heap.size w1 w2 := by rw [hw2]; exact Below.laid (Below.refl _ _) (Nat.le_refl _) _ _
  have HY : Hid (w2.heap[w1.heap.size]? = some (.cells (s11 ((x.kind : Int)) ((strU x.name)) ((strU x.table)) (.slice a1 n1 c1) (.slice a2 n2 c2) (.slice a3 n3 c3) (.slice (some ⟨g, 0, none⟩) 1 c4) (.slice a5 n5 c5) x.cond.a (.slice a6 n6 c6) (.slice a7 n7 c7) x.having_.a (.slice a8 n8 c8) (.slice a9 n9 c9) 3 0) 39 (0, 0))) := Lib.hid (by rw [hw2]; exact setRow_heap _ _ _ _ _ _ (heap_alloc_new _ _))
  have HX : Hid (w2.heap[w.heap.size]? = some (.cells #[.int .u8 1, .int .u8 0, .string ⟨#[]⟩, .string ⟨#[]⟩, .int .u8 2, .int .i64 0, .string ⟨#[120]⟩, .bool false, .slice none 0 0] 36 (0, 0))) := Lib.hid ((hb2.block _ (bk_lt HX1.out)).trans HX1.out)
  have HG : Hid (w2.cell? ⟨g, 10, none⟩ = some (.bool true)) := Lib.hid ((World.cell?_of_block (hb2.block g hg)).trans hstar)
  have HGL : Hid (g < w2.heap.size) := Lib.hid (Nat.lt_of_lt_of_le hg hb2.size)
  have HB2 : Hid (Below w.heap.size w w2) := Lib.hid (HB.out.trans (hb2.mono HB.out.size))
  have HCK : Hid (∀ z, Below w2.heap.size w2 z → Calls Tryz.prog 13 #[.agg (s11 ((x.kind : Int)) ((strU x.name)) ((strU x.table)) (.slice a1 n1 c1) (.slice a2 n2 c2) (.slice a3 n3 c3) (.slice (some ⟨g, 0, none⟩) 1 c4) (.slice a5 n5 c5) x.cond.a (.slice a6 n6 c6) (.slice a7 n7 c7) x.having_.a (.slice a8 n8 c8) (.slice a9 n9 c9) 3 0)] z fun e w' => e = .returned (.bool true) ∧ Below z.heap.size z w') := Lib.hid (fun z hz => hCk z (hb2.trans (hz.mono hb2.size)))
  clear hs hb hrg h5 h6 hC hb2 hst hit hstar hCk
  go_wp2_with (refine wpList_store_row rfl 39 _ _ rfl w1.heap.size (s11 ((x.kind : Int)) ((strU x.name)) ((strU x.table)) (.slice a1 n1 c1) (.slice a2 n2 c2) (.slice a3 n3 c3) (.slice (some ⟨g, 0, none⟩) 1 c4) (.slice a5 n5 c5) x.cond.a (.slice a6 n6 c6) (.slice a7 n7 c7) x.having_.a (.slice a8 n8 c8) (.slice a9 n9 c9) 3 0) rfl rfl _ _ (heap_alloc_new _ _) (by kernel_rfl) rfl (by simp [Value.oneCell']) ?_; rw [← hw2]; clear hw2)
  refine wp_region_tab [.ex (colE [] [97]), .ex (colE [] [98]), .ex (litE 1 2 []), .ex (oneE 1 (litE 1 2 [])), .ex (twoE 7 (colE [] [98]) (oneE 1 (litE 1 2 []))), .ex (twoE 5 (colE [] [97]) (twoE 7 (colE [] [98]) (oneE 1 (litE 1 2 [])))), .val (.bool true), .val (.bool true), .ex (colE [] [97]), .ex (litE 1 1 []), .ex (litE 2 0 [120]), .row [colE [] [97], litE 1 1 [], litE 2 0 [120]], .ex (inE (colE [] [97]) [litE 1 1 [], litE 2 0 [120]]), .ex (oneE 2 (inE (colE [] [97]) [litE 1 1 [], litE 2 0 [120]])), .val (.bool true), .val (.bool true), .val (.bool true), .ex (colE [116] [97]), .ex (oneE 4 (colE [116] [97])), .val (.bool true), .val (.bool true), .val (.bool true), .val (.int .i64 0), .val (.bool true), .val (.bool true), .val (.bool true), .val (.pointer (some ⟨w1.heap.size, 6, none⟩)), .val (.slice (some ⟨g, 0, none⟩) 1 c4), .val (.int .i64 1), .val (.bool true), .val (.bool true), .val (.bool true), .val (.pointer (some ⟨w1.heap.size, 6, none⟩)), .val (.slice (some ⟨g, 0, none⟩) 1 c4), .val (.pointer (some ⟨g, 0, none⟩)), .val (.pointer (some ⟨g, 10, none⟩)), .val (.bool true), .val (.bool true), .val (.bool true), .val (.pointer (some ⟨w1.heap.size, 28, none⟩)), .val (.int .i64 3), .val (.bool true), .val (.bool true), .val (.bool true), .val (.pointer (some ⟨w1.heap.size, 29, none⟩)), .val (.int .i64 0), .val (.bool true), .val (.bool true), .val (.bool true), .val (.agg (s11 ((x.kind : Int)) ((strU x.name)) ((strU x.table)) (.slice a1 n1 c1) (.slice a2 n2 c2) (.slice a3 n3 c3) (.slice (some ⟨g, 0, none⟩) 1 c4) (.slice a5 n5 c5) x.cond.a (.slice a6 n6 c6) (.slice a7 n7 c7) x.having_.a (.slice a8 n8 c8) (.slice a9 n9 c9) 3 0)), .val (.bool true), .val (.bool true), .val (.bool true), .val (.bool true), .val (.bool true), .val (.bool true), .val (.bool true), .val (.bool true), .val (.bool true), .val (.bool true), .val (.bool true), .val (.bool true)]
    [[], [], [], [(2, 14)], [(1, 13), (3, 15)], [(0, 12), (4, 16)], [(5, 17)], [(6, 18)], [], [], [], [(8, 20), (9, 21), (10, 22)], [(11, 23)], [(12, 24)], [(13, 25)], [(7, 19), (14, 26)], [(15, 27)], [], [(17, 29)], [(18, 30)], [(16, 28), (19, 31)], [(20, 32)], [], [(22, 34)], [(21, 33), (23, 35)], [(24, 36)], [], [(26, 38)], [(27, 39)], [(28, 40)], [(25, 37), (29, 41)], [(30, 42)], [], [(32, 44)], [(33, 45)], [(34, 46)], [(35, 47)], [(31, 43), (36, 48)], [(37, 49)], [], [(39, 51)], [(40, 52)], [(38, 50), (41, 53)], [(42, 54)], [], [(44, 56)], [(45, 57)], [(43, 55), (46, 58)], [(47, 59)], [], [(49, 61)], [(48, 60), (50, 62)], [(51, 63)], [], [(52, 64), (53, 65)], [(54, 66)], [], [(55, 67), (56, 68)], [(57, 69)], [], [(58, 70), (59, 71)], [(60, 72)]] [1, 2, 4] (by kernel_rfl) (by kernel_rfl) (by kernel_rfl) ?_ ?_
  · refine ⟨?_, ?_, ?_, ?_, ?_, ?_, ?_, ?_, ?_, ?_, ?_, ?_, ?_, ?_, ?_, ?_, ?_, ?_, ?_, ?_, ?_, ?_, ?_, ?_, ?_, ?_, ?_, ?_, ?_, ?_, ?_, ?_, ?_, ?_, ?_, ?_, ?_, ?_, ?_, ?_, ?_, ?_, ?_, ?_, ?_, ?_, ?_, ?_, ?_, ?_, ?_, ?_, ?_, ?_, ?_, ?_, ?_, ?_, ?_, ?_, ?_, ?_, trivial⟩
    · intro b z hb hout hd K hK
      unfold Oper.wp execOp
      simp [Act.eval, go_sem]
      refine (col_any [97] z).mono ?_
      rintro e z2 ⟨rfl, hb2⟩
      exact hK _ _ ⟨_, rfl, REs.nil _ _⟩ hb2
    · intro b z hb hout hd K hK
      unfold Oper.wp execOp
      simp [Act.eval, go_sem]
      refine (col_any [98] z).mono ?_
      rintro e z2 ⟨rfl, hb2⟩
      exact hK _ _ ⟨_, rfl, REs.nil _ _⟩ hb2
    · intro b z hb hout hd K hK
      unfold Oper.wp execOp
      simp [Act.eval, go_sem]
      refine (num_any 2 z).mono ?_
      rintro e z2 ⟨rfl, hb2⟩
      exact hK _ _ ⟨_, rfl, REs.nil _ _⟩ hb2
    · intro b z hb hout hd K hK
      have hd2 := one_dep hd
      have e0 := hd2
      obtain ⟨u0, e0, r0⟩ := (show ∃ u, b.tmps.getD 14 undef = exVal (Ex.a (litE 1 2 [])) u ∧ REs (fun _ => True) z u (Ex.l (litE 1 2 [])) from e0)
      unfold Oper.wp execOp
      simp [Act.eval, go_sem, e0]
      refine (one_any7 1 (litE 1 2 []) u0 z r0).mono ?_
      rintro e z2 ⟨v, rfl, hs, hb2⟩
      exact hK _ _ ⟨v, rfl, hs⟩ hb2
    · intro b z hb hout hd K hK
      have hd2 := two_deps hd
      obtain ⟨e0, e1⟩ := hd2
      obtain ⟨u0, e0, r0⟩ := (show ∃ u, b.tmps.getD 13 undef = exVal (Ex.a (colE [] [98])) u ∧ REs (fun _ => True) z u (Ex.l (colE [] [98])) from e0)
      obtain ⟨u1, e1, r1⟩ := (show ∃ u, b.tmps.getD 15 undef = exVal (Ex.a (oneE 1 (litE 1 2 []))) u ∧ REs (fun _ => True) z u (Ex.l (oneE 1 (litE 1 2 []))) from e1)
      unfold Oper.wp execOp
      simp [Act.eval, go_sem, e0, e1]
      refine (two_any7 7 (colE [] [98]) (oneE 1 (litE 1 2 [])) u0 u1 z r0 r1).mono ?_
      rintro e z2 ⟨v, rfl, hs, hb2⟩
      exact hK _ _ ⟨v, rfl, hs⟩ hb2
    · intro b z hb hout hd K hK
      have hd2 := two_deps hd
      obtain ⟨e0, e1⟩ := hd2
      obtain ⟨u0, e0, r0⟩ := (show ∃ u, b.tmps.getD 12 undef = exVal (Ex.a (colE [] [97])) u ∧ REs (fun _ => True) z u (Ex.l (colE [] [97])) from e0)
      obtain ⟨u1, e1, r1⟩ := (show ∃ u, b.tmps.getD 16 undef = exVal (Ex.a (twoE 7 (colE [] [98]) (oneE 1 (litE 1 2 [])))) u ∧ REs (fun _ => True) z u (Ex.l (twoE 7 (colE [] [98]) (oneE 1 (litE 1 2 [])))) from e1)
      unfold Oper.wp execOp
      simp [Act.eval, go_sem, e0, e1]
      refine (two_any7 5 (colE [] [97]) (twoE 7 (colE [] [98]) (oneE 1 (litE 1 2 []))) u0 u1 z r0 r1).mono ?_
      rintro e z2 ⟨v, rfl, hs, hb2⟩
      exact hK _ _ ⟨v, rfl, hs⟩ hb2
    · intro b z hb hout hd K hK
      have hd2 := one_dep hd
      have e0 := hd2
      obtain ⟨u0, e0, r0⟩ := (show ∃ u, b.tmps.getD 17 undef = exVal (Ex.a (twoE 5 (colE [] [97]) (twoE 7 (colE [] [98]) (oneE 1 (litE 1 2 []))))) u ∧ REs (fun _ => True) z u (Ex.l (twoE 5 (colE [] [97]) (twoE 7 (colE [] [98]) (oneE 1 (litE 1 2 []))))) from e0)
      unfold Oper.wp execOp
      simp [Act.eval, go_sem, e0]
      refine (is_yes ⟨#[97, 32, 43, 32, 98, 32, 42, 32, 45, 50]⟩ _ alive_a1 u0 z (hw.kept (HB2.out.trans (hb.mono HB2.out.size))) r0).mono ?_
      rintro e z2 ⟨rfl, hb2⟩
      exact hK _ _ rfl hb2
    · intro b z hb hout hd K hK
      have hd2 := one_dep hd
      have e0 := hd2
      have e0 : b.tmps.getD 18 undef = .bool true := e0
      unfold Oper.wp execOp
      simp [Act.eval, go_sem, e0]
      exact hK _ _ rfl (Below.refl _ _)
    · intro b z hb hout hd K hK
      unfold Oper.wp execOp
      simp [Act.eval, go_sem]
      refine (col_any [97] z).mono ?_
      rintro e z2 ⟨rfl, hb2⟩
      exact hK _ _ ⟨_, rfl, REs.nil _ _⟩ hb2
    · intro b z hb hout hd K hK
      unfold Oper.wp execOp
      simp [Act.eval, go_sem]
      refine (num_any 1 z).mono ?_
      rintro e z2 ⟨rfl, hb2⟩
      exact hK _ _ ⟨_, rfl, REs.nil _ _⟩ hb2
    · intro b z hb hout hd K hK
      refine wp_load_row 36 _ rfl w.heap.size (hout 1 (by simp)) 36 #[.int .u8 1, .int .u8 0, .string ⟨#[]⟩, .string ⟨#[]⟩, .int .u8 2, .int .i64 0, .string ⟨#[120]⟩, .bool false, .slice none 0 0] (0, 0) _ ((hb.block _ (bk_lt HX.out)).trans HX.out) Tryz.underlying36 rfl (by kernel_rfl) (hK _ _ ⟨.slice none 0 0, rfl, REs.nil _ _⟩ (Below.refl _ _))
    · intro b z hb hout hd K hK
      have hd2 := three_deps hd
      obtain ⟨e0, e1, e2⟩ := hd2
      obtain ⟨u0, e0, r0⟩ := (show ∃ u, b.tmps.getD 20 undef = exVal (Ex.a (colE [] [97])) u ∧ REs (fun _ => True) z u (Ex.l (colE [] [97])) from e0)
      obtain ⟨u1, e1, r1⟩ := (show ∃ u, b.tmps.getD 21 undef = exVal (Ex.a (litE 1 1 [])) u ∧ REs (fun _ => True) z u (Ex.l (litE 1 1 [])) from e1)
      obtain ⟨u2, e2, r2⟩ := (show ∃ u, b.tmps.getD 22 undef = exVal (Ex.a (litE 2 0 [120])) u ∧ REs (fun _ => True) z u (Ex.l (litE 2 0 [120])) from e2)
      obtain ⟨a0, c0, rfl, _⟩ := r0.len
      obtain ⟨a1', c1', rfl, _⟩ := r1.len
      obtain ⟨a2', c2', rfl, _⟩ := r2.len
      unfold exVal at e0 e1 e2
      have m0 := e0
      have m1 := e1
      have m2 := e2
      simp only [Array.getD_eq_getD_getElem?] at m0 m1 m2
      unfold Oper.wp execOp
      simp [Act.eval, go_sem, m0, m1, m2]
      refine hK _ _ ?_ (below_alloc _ _)
      exact REs.of_block (us := [.slice a0 _ c0, .slice a1' _ c1', .slice a2' _ c2']) (l := [colE [] [97], litE 1 1 [], litE 2 0 [120]]) (heap_alloc_new _ _) rfl ⟨r0.below (below_alloc _ _), r1.below (below_alloc _ _), r2.below (below_alloc _ _), trivial⟩ trivial (by decide) 3 rfl
    · intro b z hb hout hd K hK
      have hd2 := one_dep hd
      have e0 := hd2
      have r0 : REs (fun _ => True) z (b.tmps.getD 23 undef) (Exs.ofL [colE [] [97], litE 1 1 [], litE 2 0 [120]]) := e0
      obtain ⟨ao, c, hsl, _⟩ := r0.len
      have hsm := hsl
      simp only [Array.getD_eq_getD_getElem?] at hsm
      unfold Oper.wp execOp
      simp [Act.eval, go_sem, hsl, hsm]
      exact hK _ _ ⟨_, rfl, by rw [hsl] at r0; exact r0⟩ (Below.refl _ _)
    · intro b z hb hout hd K hK
      have hd2 := one_dep hd
      have e0 := hd2
      obtain ⟨u0, e0, r0⟩ := (show ∃ u, b.tmps.getD 24 undef = exVal (Ex.a (inE (colE [] [97]) [litE 1 1 [], litE 2 0 [120]])) u ∧ REs (fun _ => True) z u (Ex.l (inE (colE [] [97]) [litE 1 1 [], litE 2 0 [120]])) from e0)
      unfold Oper.wp execOp
      simp [Act.eval, go_sem, e0]
      refine (one_any7 2 (inE (colE [] [97]) [litE 1 1 [], litE 2 0 [120]]) u0 z r0).mono ?_
      rintro e z2 ⟨v, rfl, hs, hb2⟩
      exact hK _ _ ⟨v, rfl, hs⟩ hb2
    · intro b z hb hout hd K hK
      have hd2 := one_dep hd
      have e0 := hd2
      obtain ⟨u0, e0, r0⟩ := (show ∃ u, b.tmps.getD 25 undef = exVal (Ex.a (oneE 2 (inE (colE [] [97]) [litE 1 1 [], litE 2 0 [120]]))) u ∧ REs (fun _ => True) z u (Ex.l (oneE 2 (inE (colE [] [97]) [litE 1 1 [], litE 2 0 [120]]))) from e0)
      unfold Oper.wp execOp
      simp [Act.eval, go_sem, e0]
      refine (is_yes ⟨#[78, 79, 84, 32, 97, 32, 73, 78, 32, 40, 49, 44, 32, 39, 120, 39, 41]⟩ _ alive_a2 u0 z (hw.kept (HB2.out.trans (hb.mono HB2.out.size))) r0).mono ?_
      rintro e z2 ⟨rfl, hb2⟩
      exact hK _ _ rfl hb2
    · intro b z hb hout hd K hK
      have hd2 := two_deps hd
      obtain ⟨e0, e1⟩ := hd2
      have e0 : b.tmps.getD 19 undef = .bool true := e0
      have e1 : b.tmps.getD 26 undef = .bool true := e1
      unfold Oper.wp execOp
      simp [Act.eval, go_sem, e0, e1]
      exact hK _ _ rfl (Below.refl _ _)
    · intro b z hb hout hd K hK
      have hd2 := one_dep hd
      have e0 := hd2
      have e0 : b.tmps.getD 27 undef = .bool true := e0
      unfold Oper.wp execOp
      simp [Act.eval, go_sem, e0]
      exact hK _ _ rfl (Below.refl _ _)
    · intro b z hb hout hd K hK
      unfold Oper.wp execOp
      simp [Act.eval, go_sem]
      exact hK _ _ ⟨.slice none 0 0, rfl, REs.nil _ _⟩ (Below.refl _ _)
    · intro b z hb hout hd K hK
      have hd2 := one_dep hd
      have e0 := hd2
      obtain ⟨u0, e0, r0⟩ := (show ∃ u, b.tmps.getD 29 undef = exVal (Ex.a (colE [116] [97])) u ∧ REs (fun _ => True) z u (Ex.l (colE [116] [97])) from e0)
      unfold Oper.wp execOp
      simp [Act.eval, go_sem, e0]
      refine (one_any7 4 (colE [116] [97]) u0 z r0).mono ?_
      rintro e z2 ⟨v, rfl, hs, hb2⟩
      exact hK _ _ ⟨v, rfl, hs⟩ hb2
    · intro b z hb hout hd K hK
      have hd2 := one_dep hd
      have e0 := hd2
      obtain ⟨u0, e0, r0⟩ := (show ∃ u, b.tmps.getD 30 undef = exVal (Ex.a (oneE 4 (colE [116] [97]))) u ∧ REs (fun _ => True) z u (Ex.l (oneE 4 (colE [116] [97]))) from e0)
      unfold Oper.wp execOp
      simp [Act.eval, go_sem, e0]
      refine (is_yes ⟨#[116, 46, 97, 32, 73, 83, 32, 78, 79, 84, 32, 78, 85, 76, 76]⟩ _ alive_a3 u0 z (hw.kept (HB2.out.trans (hb.mono HB2.out.size))) r0).mono ?_
      rintro e z2 ⟨rfl, hb2⟩
      exact hK _ _ rfl hb2
    · intro b z hb hout hd K hK
      have hd2 := two_deps hd
      obtain ⟨e0, e1⟩ := hd2
      have e0 : b.tmps.getD 28 undef = .bool true := e0
      have e1 : b.tmps.getD 31 undef = .bool true := e1
      unfold Oper.wp execOp
      simp [Act.eval, go_sem, e0, e1]
      exact hK _ _ rfl (Below.refl _ _)
    · intro b z hb hout hd K hK
      have hd2 := one_dep hd
      have e0 := hd2
      have e0 : b.tmps.getD 32 undef = .bool true := e0
      unfold Oper.wp execOp
      simp [Act.eval, go_sem, e0]
      exact hK _ _ rfl (Below.refl _ _)
    · intro b z hb hout hd K hK
      have q := hout 4 (by simp)
      unfold Oper.wp execOp
      simp [Act.eval, go_sem, q]
      exact hK _ _ rfl (Below.refl _ _)
    · intro b z hb hout hd K hK
      have hd2 := one_dep hd
      have e0 := hd2
      have e0 : b.tmps.getD 34 undef = .int .i64 0 := e0
      unfold Oper.wp execOp
      simp [Act.eval, go_sem, e0]
      exact hK _ _ rfl (Below.refl _ _)
    · intro b z hb hout hd K hK
      have hd2 := two_deps hd
      obtain ⟨e0, e1⟩ := hd2
      have e0 : b.tmps.getD 33 undef = .bool true := e0
      have e1 : b.tmps.getD 35 undef = .bool true := e1
      unfold Oper.wp execOp
      simp [Act.eval, go_sem, e0, e1]
      exact hK _ _ rfl (Below.refl _ _)
    · intro b z hb hout hd K hK
      have hd2 := one_dep hd
      have e0 := hd2
      have e0 : b.tmps.getD 36 undef = .bool true := e0
      unfold Oper.wp execOp
      simp [Act.eval, go_sem, e0]
      exact hK _ _ rfl (Below.refl _ _)
    · intro b z hb hout hd K hK
      have q := hout 2 (by simp)
      unfold Oper.wp execOp
      simp [Act.eval, go_sem, q]
      exact hK _ _ rfl (Below.refl _ _)
    · intro b z hb hout hd K hK
      have hd2 := one_dep hd
      have e0 := hd2
      have e0 : b.tmps.getD 38 undef = .pointer (some ⟨w1.heap.size, 6, none⟩) := e0
      have q : z.cell? ⟨w1.heap.size, 6, none⟩ = some (.slice (some ⟨g, 0, none⟩) 1 c4) := (World.cell?_of_block (hb.block _ (bk_lt HY.out))).trans (bk_cell HY.out 6)
      unfold Oper.wp execOp
      simp [Act.eval, go_sem, e0, q]
      exact hK _ _ rfl (Below.refl _ _)
    · intro b z hb hout hd K hK
      have hd2 := one_dep hd
      have e0 := hd2
      have e0 : b.tmps.getD 39 undef = .slice (some ⟨g, 0, none⟩) 1 c4 := e0
      unfold Oper.wp execOp
      simp [Act.eval, go_sem, e0]
      exact hK _ _ rfl (Below.refl _ _)
    · intro b z hb hout hd K hK
      have hd2 := one_dep hd
      have e0 := hd2
      have e0 : b.tmps.getD 40 undef = .int .i64 1 := e0
      unfold Oper.wp execOp
      simp [Act.eval, go_sem, e0]
      exact hK _ _ rfl (Below.refl _ _)
    · intro b z hb hout hd K hK
      have hd2 := two_deps hd
      obtain ⟨e0, e1⟩ := hd2
      have e0 : b.tmps.getD 37 undef = .bool true := e0
      have e1 : b.tmps.getD 41 undef = .bool true := e1
      unfold Oper.wp execOp
      simp [Act.eval, go_sem, e0, e1]
      exact hK _ _ rfl (Below.refl _ _)
    · intro b z hb hout hd K hK
      have hd2 := one_dep hd
      have e0 := hd2
      have e0 : b.tmps.getD 42 undef = .bool true := e0
      unfold Oper.wp execOp
      simp [Act.eval, go_sem, e0]
      exact hK _ _ rfl (Below.refl _ _)
    · intro b z hb hout hd K hK
      have q := hout 2 (by simp)
      unfold Oper.wp execOp
      simp [Act.eval, go_sem, q]
      exact hK _ _ rfl (Below.refl _ _)
    · intro b z hb hout hd K hK
      have hd2 := one_dep hd
      have e0 := hd2
      have e0 : b.tmps.getD 44 undef = .pointer (some ⟨w1.heap.size, 6, none⟩) := e0
      have q : z.cell? ⟨w1.heap.size, 6, none⟩ = some (.slice (some ⟨g, 0, none⟩) 1 c4) := (World.cell?_of_block (hb.block _ (bk_lt HY.out))).trans (bk_cell HY.out 6)
      unfold Oper.wp execOp
      simp [Act.eval, go_sem, e0, q]
      exact hK _ _ rfl (Below.refl _ _)
    · intro b z hb hout hd K hK
      have hd2 := one_dep hd
      have e0 := hd2
      have e0 : b.tmps.getD 45 undef = .slice (some ⟨g, 0, none⟩) 1 c4 := e0
      unfold Oper.wp execOp
      simp [Act.eval, go_sem, e0]
      exact hK _ _ rfl (Below.refl _ _)
    · intro b z hb hout hd K hK
      have hd2 := one_dep hd
      have e0 := hd2
      have e0 : b.tmps.getD 46 undef = .pointer (some ⟨g, 0, none⟩) := e0
      unfold Oper.wp execOp
      simp [Act.eval, go_sem, e0]
      exact hK _ _ rfl (Below.refl _ _)
    · intro b z hb hout hd K hK
      have hd2 := one_dep hd
      have e0 := hd2
      have e0 : b.tmps.getD 47 undef = .pointer (some ⟨g, 10, none⟩) := e0
      have q : z.cell? ⟨g, 10, none⟩ = some (.bool true) := (World.cell?_of_block (hb.block _ (HGL.out))).trans (HG.out)
      unfold Oper.wp execOp
      simp [Act.eval, go_sem, e0, q]
      exact hK _ _ rfl (Below.refl _ _)
    · intro b z hb hout hd K hK
      have hd2 := two_deps hd
      obtain ⟨e0, e1⟩ := hd2
      have e0 : b.tmps.getD 43 undef = .bool true := e0
      have e1 : b.tmps.getD 48 undef = .bool true := e1
      unfold Oper.wp execOp
      simp [Act.eval, go_sem, e0, e1]
      exact hK _ _ rfl (Below.refl _ _)
    · intro b z hb hout hd K hK
      have hd2 := one_dep hd
      have e0 := hd2
      have e0 : b.tmps.getD 49 undef = .bool true := e0
      unfold Oper.wp execOp
      simp [Act.eval, go_sem, e0]
      exact hK _ _ rfl (Below.refl _ _)
    · intro b z hb hout hd K hK
      have q := hout 2 (by simp)
      unfold Oper.wp execOp
      simp [Act.eval, go_sem, q]
      exact hK _ _ rfl (Below.refl _ _)
    · intro b z hb hout hd K hK
      have hd2 := one_dep hd
      have e0 := hd2
      have e0 : b.tmps.getD 51 undef = .pointer (some ⟨w1.heap.size, 28, none⟩) := e0
      have q : z.cell? ⟨w1.heap.size, 28, none⟩ = some (.int .i64 3) := (World.cell?_of_block (hb.block _ (bk_lt HY.out))).trans (bk_cell HY.out 28)
      unfold Oper.wp execOp
      simp [Act.eval, go_sem, e0, q]
      exact hK _ _ rfl (Below.refl _ _)
    · intro b z hb hout hd K hK
      have hd2 := one_dep hd
      have e0 := hd2
      have e0 : b.tmps.getD 52 undef = .int .i64 3 := e0
      unfold Oper.wp execOp
      simp [Act.eval, go_sem, e0]
      exact hK _ _ rfl (Below.refl _ _)
    · intro b z hb hout hd K hK
      have hd2 := two_deps hd
      obtain ⟨e0, e1⟩ := hd2
      have e0 : b.tmps.getD 50 undef = .bool true := e0
      have e1 : b.tmps.getD 53 undef = .bool true := e1
      unfold Oper.wp execOp
      simp [Act.eval, go_sem, e0, e1]
      exact hK _ _ rfl (Below.refl _ _)
    · intro b z hb hout hd K hK
      have hd2 := one_dep hd
      have e0 := hd2
      have e0 : b.tmps.getD 54 undef = .bool true := e0
      unfold Oper.wp execOp
      simp [Act.eval, go_sem, e0]
      exact hK _ _ rfl (Below.refl _ _)
    · intro b z hb hout hd K hK
      have q := hout 2 (by simp)
      unfold Oper.wp execOp
      simp [Act.eval, go_sem, q]
      exact hK _ _ rfl (Below.refl _ _)
    · intro b z hb hout hd K hK
      have hd2 := one_dep hd
      have e0 := hd2
      have e0 : b.tmps.getD 56 undef = .pointer (some ⟨w1.heap.size, 29, none⟩) := e0
      have q : z.cell? ⟨w1.heap.size, 29, none⟩ = some (.int .i64 0) := (World.cell?_of_block (hb.block _ (bk_lt HY.out))).trans (bk_cell HY.out 29)
      unfold Oper.wp execOp
      simp [Act.eval, go_sem, e0, q]
      exact hK _ _ rfl (Below.refl _ _)
    · intro b z hb hout hd K hK
      have hd2 := one_dep hd
      have e0 := hd2
      have e0 : b.tmps.getD 57 undef = .int .i64 0 := e0
      unfold Oper.wp execOp
      simp [Act.eval, go_sem, e0]
      exact hK _ _ rfl (Below.refl _ _)
    · intro b z hb hout hd K hK
      have hd2 := two_deps hd
      obtain ⟨e0, e1⟩ := hd2
      have e0 : b.tmps.getD 55 undef = .bool true := e0
      have e1 : b.tmps.getD 58 undef = .bool true := e1
      unfold Oper.wp execOp
      simp [Act.eval, go_sem, e0, e1]
      exact hK _ _ rfl (Below.refl _ _)
    · intro b z hb hout hd K hK
      have hd2 := one_dep hd
      have e0 := hd2
      have e0 : b.tmps.getD 59 undef = .bool true := e0
      unfold Oper.wp execOp
      simp [Act.eval, go_sem, e0]
      exact hK _ _ rfl (Below.refl _ _)
    · intro b z hb hout hd K hK
      refine wp_load_row 39 _ rfl w1.heap.size (hout 2 (by simp)) 39 (s11 ((x.kind : Int)) ((strU x.name)) ((strU x.table)) (.slice a1 n1 c1) (.slice a2 n2 c2) (.slice a3 n3 c3) (.slice (some ⟨g, 0, none⟩) 1 c4) (.slice a5 n5 c5) x.cond.a (.slice a6 n6 c6) (.slice a7 n7 c7) x.having_.a (.slice a8 n8 c8) (.slice a9 n9 c9) 3 0) (0, 0) _ ((hb.block _ (bk_lt HY.out)).trans HY.out) Tryz.underlying39 rfl (by kernel_rfl) (hK _ _ rfl (Below.refl _ _))
    · intro b z hb hout hd K hK
      have hd2 := one_dep hd
      have e0 := hd2
      have e0 : b.tmps.getD 61 undef = .agg (s11 ((x.kind : Int)) ((strU x.name)) ((strU x.table)) (.slice a1 n1 c1) (.slice a2 n2 c2) (.slice a3 n3 c3) (.slice (some ⟨g, 0, none⟩) 1 c4) (.slice a5 n5 c5) x.cond.a (.slice a6 n6 c6) (.slice a7 n7 c7) x.having_.a (.slice a8 n8 c8) (.slice a9 n9 c9) 3 0) := e0
      unfold Oper.wp execOp
      simp [Act.eval, go_sem, e0]
      refine (HCK.out z hb).mono ?_
      rintro e z2 ⟨rfl, hb2⟩
      exact hK _ _ rfl hb2
    · intro b z hb hout hd K hK
      have hd2 := two_deps hd
      obtain ⟨e0, e1⟩ := hd2
      have e0 : b.tmps.getD 60 undef = .bool true := e0
      have e1 : b.tmps.getD 62 undef = .bool true := e1
      unfold Oper.wp execOp
      simp [Act.eval, go_sem, e0, e1]
      exact hK _ _ rfl (Below.refl _ _)
    · intro b z hb hout hd K hK
      have hd2 := one_dep hd
      have e0 := hd2
      have e0 : b.tmps.getD 63 undef = .bool true := e0
      unfold Oper.wp execOp
      simp [Act.eval, go_sem, e0]
      exact hK _ _ rfl (Below.refl _ _)
    · intro b z hb hout hd K hK
      unfold Oper.wp execOp
      simp [Act.eval, go_sem]
      refine (bad_yes7 ⟨#[68, 69, 76, 69, 84, 69, 32, 70, 82, 79, 77, 32, 116, 32, 87, 72, 69, 82, 69]⟩ 19 alive_b1 z (hw.kept (HB2.out.trans (hb.mono HB2.out.size)))).mono ?_
      rintro e z2 ⟨rfl, hb2⟩
      exact hK _ _ rfl hb2
    · intro b z hb hout hd K hK
      have hd2 := two_deps hd
      obtain ⟨e0, e1⟩ := hd2
      have e0 : b.tmps.getD 64 undef = .bool true := e0
      have e1 : b.tmps.getD 65 undef = .bool true := e1
      unfold Oper.wp execOp
      simp [Act.eval, go_sem, e0, e1]
      exact hK _ _ rfl (Below.refl _ _)
    · intro b z hb hout hd K hK
      have hd2 := one_dep hd
      have e0 := hd2
      have e0 : b.tmps.getD 66 undef = .bool true := e0
      unfold Oper.wp execOp
      simp [Act.eval, go_sem, e0]
      exact hK _ _ rfl (Below.refl _ _)
    · intro b z hb hout hd K hK
      unfold Oper.wp execOp
      simp [Act.eval, go_sem]
      refine (bad_yes7 ⟨#[83, 69, 76, 69, 67, 84, 32, 97, 32, 61, 32, 98, 32, 61, 32, 99, 32, 70, 82, 79, 77, 32, 116]⟩ 13 alive_b2 z (hw.kept (HB2.out.trans (hb.mono HB2.out.size)))).mono ?_
      rintro e z2 ⟨rfl, hb2⟩
      exact hK _ _ rfl hb2
    · intro b z hb hout hd K hK
      have hd2 := two_deps hd
      obtain ⟨e0, e1⟩ := hd2
      have e0 : b.tmps.getD 67 undef = .bool true := e0
      have e1 : b.tmps.getD 68 undef = .bool true := e1
      unfold Oper.wp execOp
      simp [Act.eval, go_sem, e0, e1]
      exact hK _ _ rfl (Below.refl _ _)
    · intro b z hb hout hd K hK
      have hd2 := one_dep hd
      have e0 := hd2
      have e0 : b.tmps.getD 69 undef = .bool true := e0
      unfold Oper.wp execOp
      simp [Act.eval, go_sem, e0]
      exact hK _ _ rfl (Below.refl _ _)
    · intro b z hb hout hd K hK
      unfold Oper.wp execOp
      simp [Act.eval, go_sem]
      refine (bad_yes7 ⟨#[68, 82, 79, 80, 32, 116]⟩ 5 alive_b3 z (hw.kept (HB2.out.trans (hb.mono HB2.out.size)))).mono ?_
      rintro e z2 ⟨rfl, hb2⟩
      exact hK _ _ rfl hb2
    · intro b z hb hout hd K hK
      have hd2 := two_deps hd
      obtain ⟨e0, e1⟩ := hd2
      have e0 : b.tmps.getD 70 undef = .bool true := e0
      have e1 : b.tmps.getD 71 undef = .bool true := e1
      unfold Oper.wp execOp
      simp [Act.eval, go_sem, e0, e1]
      exact hK _ _ rfl (Below.refl _ _)
    · intro b z hb hout hd K hK
      have hd2 := one_dep hd
      have e0 := hd2
      have e0 : b.tmps.getD 72 undef = .bool true := e0
      unfold Oper.wp execOp
      simp [Act.eval, go_sem, e0]
      exact hK _ _ rfl (Below.refl _ _)
  · intro b z hb hdf hsz hend
    have h0 : b.tmps.getD 0 undef = .bool true := hend 61 _ 0 rfl rfl
    go_wp2_with fail
    exact bodyPost_ret (results_tmp Tryz.results11 b.tmps _ _) hdf ⟨by rw [h0], HB2.out.trans (hb.mono HB2.out.size)⟩
end
end Go.Proofs.YtenmnpbjnbdeaaaGreatDoor
