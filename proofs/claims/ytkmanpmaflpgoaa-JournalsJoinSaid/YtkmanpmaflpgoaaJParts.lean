/-
  WHAT IS PROVED: contract of journals: the parts of a file, one by one (a range over a function).
-/
import Derived.Test.YtkmanpmaflpgoaaJPartAt
import Derived.RangeFuncNested
import Derived.RangeFuncBound
import Derived.RangeFuncCalls
import Derived.RangeFuncLeaves
import Derived.Shelf.Abstract
import Derived.Shelf.RegionOpen
import Derived.OwnWalkIn
import Derived.TacticsInMore
import Derived.LoopNIn
import Derived.LoopIn
namespace Go.Proofs.Ytkmanpmaflpgoaa
open Go.RowKit Go.Shelf
attribute [local go_sem] Oper.semAt_some

/-- a part that a place has, or no part, as a value: its cells -/
def pK (l : List Nat) (a : Nat) : Nat := if partOk l a then l.getD (a + 6) 0 else 0
def pA (ao : Option Addr) (cap : Nat) (l : List Nat) (a : Nat) : Option Addr := if partOk l a then cutA ao cap (a + 7) else none
def pN (l : List Nat) (a : Nat) : Nat := if partOk l a then sizeAt l a else 0
def pC (cap : Nat) (l : List Nat) (a : Nat) : Nat := if partOk l a then cap - (a + 7) else 0
def pV (ao : Option Addr) (cap : Nat) (l : List Nat) (a : Nat) : Value := .agg #[.int .u8 (pK l a : Nat), .slice (pA ao cap l a) (pN l a) (pC cap l a)]

theorem partIf_eq (ao : Option Addr) (cap : Nat) (l : List Nat) (a : Nat) : partIf ao cap l a = pV ao cap l a := by
  unfold partIf pV pK pA pN pC partV noPartV
  cases partOk l a <;> rfl

theorem partAt_n (l : List Nat) (a : Nat) (ao : Option Addr) (n cap : Nat) (w : World) (hr : Row8 w ao n cap l) (ha : a ≤ 1073741824) :
    Calls Try.prog 54 #[.slice ao n cap, .int .i64 a] w fun e w' => e = .returned (.tuple #[.agg #[.int .u8 (pK l a : Nat), .slice (pA ao cap l a) (pN l a) (pC cap l a)], .bool (partOk l a)]) ∧ Below w.heap.size w w' := by
  by_cases h : n < a + 7
  · have hno : partOk l a = false := part_end (by rw [hr.len]; exact h)
    refine (partAt_short l a ao n cap w hr ha h).mono fun e w' ⟨he, hb⟩ => ⟨?_, hb⟩
    rw [he]
    unfold pK pA pN pC noPartV
    rw [hno]; rfl
  · refine (partAt_long l a ao n cap w hr ha h).mono fun e w' ⟨he, hb⟩ => ⟨?_, hb⟩
    rw [he, partIf_eq]; rfl

/-- a place where there is a part -/
abbrev PlaceOf (l : List Nat) : Type := { a : Nat // partOk l a = true }

/-- all places from one on -/
def places (b : List Nat) (a : Nat) : List (PlaceOf b) :=
  if h : partOk b a = true then ⟨a, h⟩ :: places b (startN (a + 7 + sizeAt b a)) else []
termination_by b.length - a
decreasing_by
  have h1 := (partOk_len h).1
  have h2 := startN_ge (a + 7 + sizeAt b a)
  omega
theorem places_no {b : List Nat} {a : Nat} (h : partOk b a = false) : places b a = [] := by rw [places, dif_neg (by rw [h]; simp)]
theorem places_yes {b : List Nat} {a : Nat} (h : partOk b a = true) : places b a = ⟨a, h⟩ :: places b (startN (a + 7 + sizeAt b a)) := by
  rw [places, dif_pos h]
/-- the part of a place -/
def partOf {l : List Nat} (p : PlaceOf l) : PartM := ⟨p.1 + 7 + sizeAt l p.1, l.getD (p.1 + 6) 0, dataAt l p.1⟩
theorem places_parts (b : List Nat) (n : Nat) : ∀ a, b.length - a ≤ n → (places b a).map partOf = partsFrom b a := by
  induction n with
  | zero =>
    intro a h
    have : partOk b a = false := part_end (by omega)
    rw [places_no this, partsFrom_no this]; rfl
  | succ n ih =>
    intro a h
    cases hp : partOk b a with
    | false => rw [places_no hp, partsFrom_no hp]; rfl
    | true =>
      have h1 := (partOk_len hp).1
      have h2 := startN_ge (a + 7 + sizeAt b a)
      rw [places_yes hp, partsFrom_yes hp, List.map_cons, ih _ (by omega)]; rfl
theorem places_read (b : List Nat) : (places b 0).map partOf = partsFrom b 0 := places_parts b _ 0 (Nat.le_refl _)

/-- what the rounds keep: all that was there when the call began, the box of the bytes, and parts -/
structure KeepsP (B Bn : Nat) (W W' : World) : Prop where
  below : Below B W W'
  size : W.heap.size ≤ W'.heap.size
  box : W'.heap[Bn]? = W.heap[Bn]?
  part : ∀ (k : Nat) (cs : Array Value), W.heap[k]? = some (Obj.cells cs 85 (0, 0)) → W'.heap[k]? = some (Obj.cells cs 85 (0, 0))
theorem keepsP_t {B Bn : Nat} {X Y Z : World} (h : KeepsP B Bn X Y) (k : KeepsP B Bn Y Z) : KeepsP B Bn X Z := ⟨h.below.trans k.below, Nat.le_trans h.size k.size, k.box.trans h.box, fun i cs hi => k.part i cs (h.part i cs hi)⟩
theorem keepsP_b {B Bn : Nat} {w : World} (hB : B ≤ w.heap.size) (hBn : Bn < w.heap.size) (W : World) (l : Nat) (o o' : Obj) (hl : w.heap.size ≤ l) (h : W.heap[l]? = some o) (hc : o.isCells = false) (hw : o.isWalk = false) : KeepsP B Bn W (W.putObj l o') :=
  ⟨belowK_b hB W l o o' hl h hc hw, by simp, World.putObj_heap_other (by omega), fun k cs hk => (World.putObj_heap_other (fun e => by subst e; rw [h] at hk; cases hk; cases hc)).trans hk⟩

theorem parts_n (ao : Option Addr) (n cap : Nat) (w : World) : Calls Try.prog 41 #[.slice ao n cap] w fun e w' => e = .returned (.func (.func 53) #[] #[.pointer (some ⟨w.heap.size, 0, none⟩)]) ∧ w.alloc (.cells #[.slice ao n cap] 22) = w' := by
  go_enter Try.func41, Try.ntmps41
  go_wp2
  go_ret
  exact ⟨rfl, rfl⟩

/-- the kind that a place tells -/
def kindAt (l : List Nat) (a : Nat) : Nat := l.getD (a + 6) 0

/-- what the loop's body is handed -/
def encP (ao : Option Addr) (cap : Nat) (l : List Nat) (p : PlaceOf l) : Array Value :=
  #[.int .i64 ((p.1 : Int) + 7 + (sizeAt l p.1 : Int)), .agg #[.int .u8 (kindAt l p.1 : Nat), .slice (cutA ao cap (p.1 + 7)) (sizeAt l p.1) (cap - (p.1 + 7))]]

theorem below_step_a {w w1 : World} (h : Below w.heap.size w w1) (o : Obj) : Below w.heap.size w (w1.alloc o) := h.trans ((below_alloc w1 o).mono h.size)

theorem box2_set0 {w : World} {B : Nat} {x y : Value} {t : TypeId} (x' : Value) (h : w.heap[B]? = some (.cells #[x, y] t (0, 0))) : (w.setCell ⟨B, 0, none⟩ x').heap[B]? = some (.cells #[x', y] t (0, 0)) := by
  obtain ⟨hlt, hk⟩ := Array.getElem?_eq_some_iff.1 h
  show (w.heap.modify B _)[B]? = _
  rw [Array.getElem?_eq_getElem (by rw [Array.size_modify]; exact hlt), Array.getElem_modify_self, hk]
  rfl
theorem box2_set1 {w : World} {B : Nat} {x y : Value} {t : TypeId} (y' : Value) (h : w.heap[B]? = some (.cells #[x, y] t (0, 0))) : (w.setCell ⟨B, 1, none⟩ y').heap[B]? = some (.cells #[x, y'] t (0, 0)) := by
  obtain ⟨hlt, hk⟩ := Array.getElem?_eq_some_iff.1 h
  show (w.heap.modify B _)[B]? = _
  rw [Array.getElem?_eq_getElem (by rw [Array.size_modify]; exact hlt), Array.getElem_modify_self, hk]
  rfl

/-- where the reading of parts is -/
def PtRel (w : World) (n₀ Bn : Nat) (n : Nat) (ao : Option Addr) (cap : Nat) (l : List Nat) (J : List (PlaceOf l) → World → Prop) (a p t : Value) (wr : World) : Prop :=
  ∃ (at' Bp : Nat) (pre : List (PlaceOf l)), a = .int .i64 at' ∧ p = .pointer (some ⟨Bp, 0, none⟩) ∧ t = .bool (partOk l at') ∧
    Hid (wr.heap[Bp]? = some (.cells #[.int .u8 (pK l at' : Nat), .slice (pA ao cap l at') (pN l at') (pC cap l at')] 85 (0, 0))) ∧ Hid (J pre wr) ∧ Hid (pre ++ places l at' = places l 0) ∧ at' ≤ n + 7 ∧ Hid (Below n₀ w wr) ∧ Hid (wr.heap[Bn]? = some (.cells #[.slice ao n cap] 22 (0, 0))) ∧ n₀ ≤ wr.heap.size

set_option maxRecDepth 100000 in
set_option maxHeartbeats 4000000 in
theorem parts_stop (m : Nat) (hm : 3 ≤ m) (n₀ Bn : Nat) (ao : Option Addr) (n cap : Nat) (l : List Nat) (w : World) (hn : n ≤ 1073741000) (hn₀ : n₀ ≤ w.heap.size) (hbn : w.heap[Bn]? = some (.cells #[.slice ao n cap] 22 (0, 0)))
    (hr : Row8 w ao n cap l) (hlow : ∀ a, ao = some a → 0 < n → a.block < n₀) :
    SeqStopsK Fence.wide m Try.prog 53 #[.pointer (some ⟨Bn, 0, none⟩)] (encP ao cap l) (KeepsP n₀ Bn) (fun xs => xs = places l 0) (fun pre => ∃ q, pre ++ q = places l 0) (places l 0).length w := by
  intro ll J Jx W hW hJ hJx hY h0
  have hbW := (hW.block Bn (lt_of_block hbn)).trans hbn
  have hbC : W.cell? ⟨Bn, 0, none⟩ = some (.slice ao n cap) := cell_of_block hbW 0
  have hrow : ∀ wk, Below n₀ w wk → Row8 wk ao n cap l := fun wk hb => hr.below hb hlow
  refine callsIn_of_wp Try.func53 rfl trivial ?_ rfl
  simp only [Try.ntmps53, List.size_toArray, List.length_cons, List.length_nil, Nat.reduceAdd, Nat.reduceSub, Array.replicate_succ, Array.replicate_zero, List.push_toArray, List.append_toArray, List.nil_append, List.cons_append]
  have HROW := Lib.hid hrow
  have HBW := Lib.hid hbW
  have HW := Lib.hid (hW.mono hn₀)
  have hsW := hW.size
  have HRL := Lib.hid hr.len
  have HBY := Lib.hid hr.byte
  have hp0 := partAt_n l 0 ao n cap W (HROW.out W HW.out) (by omega)
  rw [show ((0 : Nat) : Int) = 0 from rfl] at hp0
  clear hrow hr hbn hW hbW hlow
  gi_wp2_with fail
  refine ⟨trivial, fun _ => by omega, callsIn_wide.2 (hp0.mono ?_)⟩
  rintro e w1 ⟨rfl, hb1⟩
  clear hp0
  have HB1 := Lib.hid hb1
  clear hb1
  gi_wp2_with fail
  gi_loopw [3, 4, 5] (fun a p t wr => PtRel w n₀ Bn n ao cap l J a p t wr) (fun a _ _ _ => n + 8 - (intOf a).toNat)
  case atStart =>
    refine ⟨0, w1.heap.size, [], rfl, rfl, rfl, Lib.hid (heap_alloc_new w1 _), Lib.hid ?_, Lib.hid rfl, by omega, Lib.hid ?_, Lib.hid ?_, by have := HB1.out.size; simp; omega⟩
    · exact hJ [] W _ none h0 (grown_any (below_step_a HB1.out _) none) (fun r e => by cases e)
    · exact HW.out.trans ((below_step_a HB1.out _).mono (by omega))
    · exact ((below_step_a HB1.out _).block Bn (lt_of_block HBW.out)).trans HBW.out
  case round =>
    obtain ⟨at', Bp, pre, rfl, rfl, rfl, hbox, hJs, hpl, hat, hB, hBn, hsz⟩ := hrel
    cases hp : partOk l at' with
    | false =>
      have HP := Lib.hid hp
      clear hp
      gi_wp2
      go_end0
      have e := hpl.out
      rw [places_no HP.out, List.append_nil] at e
      exact ⟨⟨_, rfl⟩, .inl ⟨_, e, hJs.out⟩⟩
    | true =>
      have hfit := partOk_len hp
      have hrl := HRL.out
      have hbx := hbox.out
      rw [show pK l at' = l.getD (at' + 6) 0 by unfold pK; rw [hp]; rfl, show pA ao cap l at' = cutA ao cap (at' + 7) by unfold pA; rw [hp]; rfl, show pN l at' = sizeAt l at' by unfold pN; rw [hp]; rfl, show pC cap l at' = cap - (at' + 7) by unfold pC; rw [hp]; rfl] at hbx
      have hb6 := byte_at HBY.out (at' + 6)
      have hlen : pre.length < (places l 0).length := by rw [← hpl.out, places_yes hp, List.length_append, List.length_cons]; omega
      obtain ⟨fn, tmps, assign, body, hy, hR⟩ := hY pre ⟨at', hp⟩ wr hJs.out hlen
      dsimp only [encP, kindAt] at hy
      have HPP : Hid (pre ++ [⟨at', hp⟩] ++ places l (startN (at' + 7 + sizeAt l at')) = places l 0) := by
        show _ = _
        rw [List.append_assoc, ← hpl.out, places_yes hp]; rfl
      have hst := startN_ge (at' + 7 + sizeAt l at')
      have HBX := Lib.hid hbx
      have q0 := cell_of_block hbx 0
      have q1 := cell_of_block hbx 1
      simp only [List.getElem?_toArray, List.getElem?_cons_zero, List.getElem?_cons_succ] at q0 q1
      have hs : at' + 7 + sizeAt l at' ≤ n := by omega
      generalize l.getD (at' + 6) 0 = kk at *
      clear hbx hlen hfit hrl
      gi_wp2
      refine ⟨fun _ => by omega, hR.mono ?_⟩
      rintro e W3 (⟨rfl, hJ3, hk3⟩ | ⟨rfl, hJx3⟩)
      · have HJ3 := Lib.hid hJ3
        have hbx3 := hk3.part Bp _ HBX.out
        have hB3 := hB.out.trans hk3.below
        have HB3 := Lib.hid hB3
        have hbn0 := hk3.box.trans hBn.out
        have HBN3 := Lib.hid hbn0
        have r0 := cell_of_block hbx3 0
        have r1 := cell_of_block hbx3 1
        simp only [List.getElem?_toArray, List.getElem?_cons_zero, List.getElem?_cons_succ] at r0 r1
        have hbn3 : (W3.alloc (.cells #[.int .u8 (kk : Int), .slice (cutA ao cap (at' + 7)) (sizeAt l at') (cap - (at' + 7))] 85)).cell? ⟨Bn, 0, none⟩ = some (.slice ao n cap) :=
          cell_of_block ((Below.heap_alloc W3 _ Bn (lt_of_block hbn0)).trans hbn0) 0
        have hs3 := Nat.le_trans hsz hk3.size
        clear hJ3 hk3 hbx3 hB3 hbn0
        gi_wp2_with fail
        rw [show ((at' : Int) + 7 + (sizeAt l at' : Int)) = ((at' + 7 + sizeAt l at' : Nat) : Int) by omega]
        refine ⟨trivial, fun _ => by omega, callsIn_wide.2 ((start_n (at' + 7 + sizeAt l at') (by omega) W3).mono ?_)⟩
        rintro e w' ⟨rfl, rfl⟩
        gi_wp2_with fail
        refine ⟨trivial, fun _ => by omega, callsIn_wide.2 ((partAt_n l (startN (at' + 7 + sizeAt l at')) ao n cap _ ((HROW.out _ HB3.out).alloc _) (by omega)).mono ?_)⟩
        rintro e w4 ⟨rfl, hb4⟩
        obtain ⟨W3a, hW3a⟩ : ∃ W3a, W3a = W3.alloc (.cells #[.int .u8 (kk : Int), .slice (cutA ao cap (at' + 7)) (sizeAt l at') (cap - (at' + 7))] 85) := ⟨_, rfl⟩
        rw [← hW3a] at hb4 hbn3
        have hsz3 : W3a.heap.size = W3.heap.size + 1 := by rw [hW3a]; simp
        have hnb : W3a.heap[W3.heap.size]? = some (.cells #[.int .u8 (kk : Int), .slice (cutA ao cap (at' + 7)) (sizeAt l at') (cap - (at' + 7))] 85 (0, 0)) := by rw [hW3a]; exact heap_alloc_new W3 _
        have hnb4 := (hb4.block W3.heap.size (by omega)).trans hnb
        have c0 := cell_of_block hnb4 0
        have c1 := cell_of_block hnb4 1
        have f0 : w4.frozen? ⟨W3.heap.size, 0, none⟩ = false := by simp [World.frozen?, hnb4]
        have f1 : w4.frozen? ⟨W3.heap.size, 1, none⟩ = false := by simp [World.frozen?, hnb4]
        simp only [List.getElem?_toArray, List.getElem?_cons_zero, List.getElem?_cons_succ] at c0 c1
        have hb34 : Below W3.heap.size W3 w4 := (by rw [hW3a]; exact below_alloc W3 _ : Below W3.heap.size W3 W3a).trans (hb4.mono (by omega))
        have HB34 := Lib.hid hb34
        have HNB := Lib.hid hnb4
        clear hb4 hnb hnb4 hb34 hW3a
        gi_wp2
        go_roundw
        case rel =>
          have hbf : Below W3.heap.size W3 ((w4.setCell ⟨W3.heap.size, 0, none⟩ (.int .u8 (pK l (startN (at' + 7 + sizeAt l at')) : Nat))).setCell ⟨W3.heap.size, 1, none⟩ (.slice (pA ao cap l (startN (at' + 7 + sizeAt l at'))) (pN l (startN (at' + 7 + sizeAt l at'))) (pC cap l (startN (at' + 7 + sizeAt l at'))))) :=
            (HB34.out.setCell (p := ⟨W3.heap.size, 0, none⟩) (Nat.le_refl _) _).setCell (p := ⟨W3.heap.size, 1, none⟩) (Nat.le_refl _) _
          refine ⟨startN (at' + 7 + sizeAt l at'), W3.heap.size, _, rfl, rfl, rfl, Lib.hid (box2_set1 _ (box2_set0 _ HNB.out)), Lib.hid ?_, HPP, by omega, Lib.hid (HB3.out.trans (hbf.mono hs3)), Lib.hid ?_, Nat.le_trans hs3 hbf.size⟩
          · exact hJ _ W3 _ none HJ3.out (grown_any hbf none) (fun r e => by cases e)
          · exact (hbf.block Bn (lt_of_block HBN3.out)).trans HBN3.out
        case measure => simp [intOf]; omega
      · gi_wp2
        refine bodyPost_ret (results_none rfl _ _ _) rfl ?_
        exact ⟨⟨_, rfl⟩, .inr ⟨_, ⟨_, HPP.out⟩, hJx3⟩⟩
end Go.Proofs.Ytkmanpmaflpgoaa
