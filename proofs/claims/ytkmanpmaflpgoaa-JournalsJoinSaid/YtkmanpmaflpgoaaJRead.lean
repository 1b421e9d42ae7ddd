/-
  WHAT IS PROVED: contract of journals: the records of a file's bytes, and where they end.
-/
import Derived.Test.YtkmanpmaflpgoaaJReadB
import Derived.WalkMore
import Derived.ControlIn
namespace Go.Proofs.Ytkmanpmaflpgoaa
open Go.RowKit Go.Shelf
attribute [local go_sem] Oper.semAt_some

/-- records in a slice -/
def RecsV (w : World) (rs : List (List Nat)) (w' : World) (v : Value) : Prop :=
  ∃ vs, w'.ownsRow w.heap.size 22 1 v vs.length vs ∧ RecsAt w.heap.size w' vs rs (.slice none 0 0)

def ReadRec (w : World) (rs : List (List Nat)) (stop : Nat) (e : Ending) (w' : World) : Prop :=
  ∃ v, e = .returned (.tuple #[v, .int .i64 (stop : Int)]) ∧ RecsV w rs w' v ∧ Below w.heap.size w w'

theorem set_same {W : World} {B : Nat} {t : TypeId} {v : Value} (h : Boxed W B t v) (k : Nat) : (W.setCell ⟨B, 0, none⟩ v).heap[k]? = W.heap[k]? := by
  by_cases hk : k = B
  · subst hk
    exact (show (W.setCell ⟨k, 0, none⟩ v).heap[k]? = _ from h.set v).trans (show W.heap[k]? = _ from h).symm
  · exact setCell_far _ _ _ _ hk

/-- behind the last two stores, and the end of the rounds' deferred calls -/
theorem ReadVal.fin {w W : World} {s : ReadM} {v u : Value} {vs : List Value} {D : Nat} (h : ReadVal w W s v u vs) (hD : w.heap.size + 5 ≤ D) (hK : W.heap[D]? = some (.deferred (some []))) :
    let W1 := ((W.setCell ⟨w.heap.size, 0, none⟩ v).setCell ⟨w.heap.size + 1, 0, none⟩ (.int .i64 (s.stop : Int))).drew
    W1.heap[D]? = some (.deferred (some [])) ∧ ReadVal w (W1.putObj D (.deferred none)) s v u vs := by
  intro W1
  have h3 : Boxed (W.setCell ⟨w.heap.size, 0, none⟩ v) (w.heap.size + 1) 3 (.int .i64 (s.stop : Int)) := h.b3.other (by omega) _
  have hh : ∀ k, W1.heap[k]? = W.heap[k]? := fun k => (show W1.heap[k]? = _ from set_same h3 k).trans (set_same h.b2 k)
  have hK1 : W1.heap[D]? = some (.deferred (some [])) := (hh D).trans hK
  refine ⟨hK1, ?_⟩
  have hv : ReadVal w W1 s v u vs := h.kept ⟨rfl, rfl, rfl, by simp [W1], fun k _ => hh k⟩ (fun k o _ ho _ _ => (hh k).trans ho)
  exact hv.grown (grownBy_putObj' W1 D _) (fun r e => by cases e; exact ⟨hD, _, hK1, rfl⟩) (by omega)

theorem recs_of {w W : World} {s : ReadM} {v u : Value} {vs : List Value} (h : ReadVal w W s v u vs) : RecsV w s.recs W v := by
  refine ⟨vs, ownsRow_base h.ov fun k hk => by have := h.nv k hk; omega, h.recs.1, fun j x r hx hr => ?_⟩
  obtain ⟨ao, cap, h1, h2, h3⟩ := h.recs.2 j x r hx hr
  refine ⟨ao, cap, h1, h2, fun a ha hn => ?_⟩
  obtain ⟨h4, h5, _⟩ := h3 a ha hn
  exact ⟨h4, h5, by simp [Value.ownBlock]⟩

set_option maxRecDepth 100000 in
set_option maxHeartbeats 8000000 in
theorem read_n (l : List Nat) (ao : Option Addr) (n cap : Nat) (w : World) (hr : Row8 w ao n cap l) (hn : n ≤ 2097152) :
    Calls Try.prog 25 #[.slice ao n cap] w (ReadRec w (readM l).recs (readM l).stop) := by
  refine (callsIn_wide (n := 6)).1 ?_
  refine callsIn_of_wp_marks Try.func25 rfl trivial ?_ rfl
  simp only [Try.ntmps25, List.size_toArray, List.length_cons, List.length_nil, Nat.reduceAdd, Nat.reduceSub, Array.replicate_succ, Array.replicate_zero, List.push_toArray, List.append_toArray, List.nil_append, List.cons_append]
  gi_wp2_with fail
  refine wpIn_wide.2 (wp_scope_straight ((wpIn_wide (n := 6)).1 ?_))
  gi_wp2_with fail
  refine wpIn_wide.2 (wp_label ?_)
  gi_wp2_with fail
  refine ⟨trivial, callsIn_wide.2 ((parts_n ao n cap _).mono ?_)⟩
  rintro e w' ⟨rfl, rfl⟩
  gi_wp2_with fail
  obtain ⟨W0, hW0⟩ : ∃ W0, W0 = ((((w.alloc (.cells #[.slice none 0 0] 33)).alloc (.cells #[.int .i64 0] 3)).alloc (.cells #[.slice none 0 0] 22)).alloc (.cells #[.bool false] 4)).alloc (.cells #[.slice ao n cap] 22) := ⟨_, rfl⟩
  rw [← hW0]
  have hsz : W0.heap.size = w.heap.size + 5 := by rw [hW0]; simp
  have hbW : Below w.heap.size w W0 := by
    rw [hW0]
    exact below_step_a (below_step_a (below_step_a (below_step_a (below_alloc w _) _) _) _) _
  have hbn : W0.heap[w.heap.size + 4]? = some (.cells #[.slice ao n cap] 22 (0, 0)) := by
    rw [hW0]
    have := heap_alloc_new ((((w.alloc (.cells #[.slice none 0 0] 33)).alloc (.cells #[.int .i64 0] 3)).alloc (.cells #[.slice none 0 0] 22)).alloc (.cells #[.bool false] 4)) (.cells #[.slice ao n cap] 22)
    simpa only [World.size_alloc, Nat.add_assoc, Nat.reduceAdd] using this
  have hb2 : Boxed W0 w.heap.size 33 (.slice none 0 0) := by
    rw [hW0]; exact ((((Boxed.new w _ _).alloc _).alloc _).alloc _).alloc _
  have hb3 : Boxed W0 (w.heap.size + 1) 3 (.int .i64 ((0 : Nat) : Int)) := by
    rw [hW0]
    have := Boxed.new (w.alloc (.cells #[.slice none 0 0] 33)) 3 (.int .i64 0)
    rw [World.size_alloc] at this
    exact ((this.alloc _).alloc _).alloc _
  have hb4 : Boxed W0 (w.heap.size + 2) 22 (.slice none 0 0) := by
    rw [hW0]
    have := Boxed.new ((w.alloc (.cells #[.slice none 0 0] 33)).alloc (.cells #[.int .i64 0] 3)) 22 (.slice none 0 0)
    rw [World.size_alloc, World.size_alloc] at this
    exact (this.alloc _).alloc _
  have hb5 : Boxed W0 (w.heap.size + 3) 4 (.bool false) := by
    rw [hW0]
    have := Boxed.new (((w.alloc (.cells #[.slice none 0 0] 33)).alloc (.cells #[.int .i64 0] 3)).alloc (.cells #[.slice none 0 0] 22)) 4 (.bool false)
    rw [World.size_alloc, World.size_alloc, World.size_alloc] at this
    exact this.alloc _
  have hinit : ReadVal w W0 ⟨[], 0, [], false⟩ (.slice none 0 0) (.slice none 0 0) [] :=
    ⟨hb2, hb3, hb4, hb5, World.ownsRow_nil _ _ _ _, World.ownsRow_nil _ _ _ _, fun x hx => by simp at hx, ⟨rfl, fun j x r hx => by simp at hx⟩, hbW, fun x hx => by simp at hx⟩
  have HR := Lib.hid hr
  have HLEN := Lib.hid hr.len
  have hrow : ∀ wk, Below w.heap.size w wk → Row8 wk ao n cap l := fun wk hb => hr.kept hb
  have HROW := Lib.hid hrow
  clear hrow hW0 hb2 hb3 hb4 hb5 hr
  refine wpIn_rangeFunc_ownH rfl (by omega) (gf := 53) (lb := #[.pointer (some ⟨w.heap.size + 1 + 1 + 1 + 1, 0, none⟩)]) rfl trivial (enters_of Try.func53 (by kernel_rfl) rfl)
    (parts_stop 5 (by omega) w.heap.size (w.heap.size + 4) ao n cap l W0 (by omega) (by omega) hbn (HROW.out _ hbW) (fun a ha hn => HR.out.lt a ha hn)) keepsP_t (keepsP_b (by omega) (by omega)) (Below.refl _ _) (fun _ => rfl)
    (InvR w l) (OutR w l 0) (invR_own (by omega)) (outR_own (by omega)) ⟨_, _, _, _, rfl, hinit, by simp, by simp, by omega⟩
    (fun x a' W => ∃ Bx : Nat, W.heap[Bx]? = some (Obj.cells #[.int .u8 (kindAt l x.1 : Nat), .slice (cutA ao cap (x.1 + 7)) (sizeAt l x.1) (cap - (x.1 + 7))] 85 (0, 0)) ∧ a' = { tmps := #[.slice ao n cap, undef, .pointer (some ⟨w.heap.size, 0, none⟩), .pointer (some ⟨w.heap.size + 1, 0, none⟩), .pointer (some ⟨w.heap.size + 2, 0, none⟩), .pointer (some ⟨w.heap.size + 3, 0, none⟩), .int .i64 ((x.1 : Int) + 7 + (sizeAt l x.1 : Int)), .pointer (some ⟨Bx, 0, none⟩), .slice ao n cap, .func (.func 53) #[] #[.pointer (some ⟨w.heap.size + 1 + 1 + 1 + 1, 0, none⟩)], .int .i64 ((x.1 : Int) + 7 + (sizeAt l x.1 : Int)), .agg #[.int .u8 (kindAt l x.1 : Nat), .slice (cutA ao cap (x.1 + 7)) (sizeAt l x.1) (cap - (x.1 + 7))], undef, undef, undef, undef, undef, undef, undef, undef, undef, undef, undef, undef, undef, undef, undef, undef, undef, undef, undef, undef, undef, undef, undef, undef, undef, undef, undef, undef, undef, undef, undef, undef], defers := [] })
    (fun x a' _ X Y row hs hg hr => by
      obtain ⟨Bx, h1, h2⟩ := hs
      exact ⟨Bx, (hg.block Bx (lt_of_block h1) (fun e => by obtain ⟨_, o, ho, hc⟩ := hr Bx e.symm; rw [h1] at ho; cases ho; cases hc)).trans h1, h2⟩)
    ?assign ?body ?done ?stop
  case assign =>
    rintro ll pre x W K hI hK
    dsimp only [encP]
    gi_wp2
    obtain ⟨s, v, u, vs, i1, i2, i3, i4, i5⟩ := hI
    have hbel := below_alloc W (.cells #[.int .u8 (kindAt l x.1 : Nat), .slice (cutA ao cap (x.1 + 7)) (sizeAt l x.1) (cap - (x.1 + 7))] 85)
    refine hK _ _ ((KeepsOthers.alloc _ _).from _) ⟨hbel.mono (by have := i2.below.size; omega), hbel.size, hbel.block _ i5, fun k cs hk => (hbel.block k (lt_of_block hk)).trans hk⟩
      ⟨s, v, u, vs, i1, i2.kept (hbel.mono (by have := i2.below.size; omega)) (fun k o _ ho _ _ => (hbel.block k (lt_of_block ho)).trans ho), i3, i4, by simp; omega⟩ ⟨W.heap.size, heap_alloc_new W _, rfl⟩
  case body =>
    rintro ll pre x a' W hl ⟨rr, hrr⟩ ⟨s, v, u, vs, i1, i2, i3, i4, i5⟩ ⟨Bx, hBx, rfl⟩ hlt
    have c2 := i2.b2.cell
    have c3 := i2.b3.cell
    have c4 := i2.b4.cell
    have c5 := i2.b5.cell
    have f4 := i2.b4.frozen
    have f5 := i2.b5.frozen
    have q0 := cell_of_block hBx 0
    have q1 := cell_of_block hBx 1
    simp only [List.getElem?_toArray, List.getElem?_cons_zero, List.getElem?_cons_succ] at q0 q1
    have hkb : kindAt l x.1 < 256 := byte_at HR.out.byte (x.1 + 6)
    obtain ⟨recs, stop, cur, begun⟩ := s
    simp only at c3 c5 i3
    have hnx : ∀ {B : Nat} {t : TypeId} {y : Value}, Boxed W B t y → Bx ≠ B := fun hb e => by
      subst e
      rw [show W.heap[_]? = _ from hb] at hBx
      simp at hBx
    have hb0 := hnx i2.b2
    have hb1 := hnx i2.b3
    have hb2 := hnx i2.b4
    have hb3 := hnx i2.b5
    have hss := part_size x.2
    have hfit := partOk_len x.2
    have hll := HLEN.out
    have hpl := places_len l _ 0 (Nat.le_refl _)
    have hrd : Row8 W (cutA ao cap (x.1 + 7)) (sizeAt l x.1) (cap - (x.1 + 7)) (dataAt l x.1) := by
      have h := (HROW.out W i2.below).cut (x.1 + 7) (x.1 + 7 + sizeAt l x.1) (by omega) (by omega)
      rw [show x.1 + 7 + sizeAt l x.1 - (x.1 + 7) = sizeAt l x.1 by omega] at h
      exact h
    have hdl : (partOf x).data.length = sizeAt l x.1 := hrd.len
    have HRD := Lib.hid hrd
    have I1 := Lib.hid i1
    have I2 := Lib.hid i2
    have HBX := Lib.hid hBx
    have HDL := Lib.hid hdl
    have HCUR : cur.length ≤ 10000000000 := by omega
    have hvl : vs.length ≤ 100000000 := by omega
    have hnw : w.heap.size + 5 ≤ W.heap.size := by omega
    clear hrd i1 i2 hBx hnx hfit hll hpl hdl
    have hcases : kindAt l x.1 = 1 ∨ kindAt l x.1 = 2 ∨ kindAt l x.1 = 3 ∨ kindAt l x.1 = 4 ∨ (kindAt l x.1 ≠ 1 ∧ kindAt l x.1 ≠ 2 ∧ kindAt l x.1 ≠ 3 ∧ kindAt l x.1 ≠ 4) := by omega
    cases begun with
    | false =>
      rcases hcases with hk | hk | hk | hk | ⟨hk1, hk2, hk3, hk4⟩
      · have HKV := Lib.hid hk
        clear hk
        rw [HKV.out] at q0
        obtain ⟨uo, uc, u1o, u1c, w1, rfl, hrun, k2, k3, k4, k5, kb, hv1, ht1, hn1⟩ := I2.out.more HRD.out (by simp only; omega) hnw HBX.out
        simp only at hrun k3 k4 k5
        have d2 := k2.cell
        have g2 := k2.frozen
        have d3 := k3.cell
        have g3 := k3.frozen
        have d4 := k4.cell
        have g4 := k4.frozen
        have d5 := k5.cell
        have g5 := k5.frozen
        rw [HKV.out] at kb
        have p0 := cell_of_block kb 0
        have p1 := cell_of_block kb 1
        simp only [List.getElem?_toArray, List.getElem?_cons_zero, List.getElem?_cons_succ] at p0 p1
        have hv2 := hv1.flag false
        have HT2 := Lib.hid (ht1.trans (turn_set w _ v _ (w.heap.size + 3) (.bool false) ⟨by omega, by omega⟩) hn1)
        have HP : Hid ((⟨recs, stop, cur, false⟩ : ReadM).put (partOf x) = ⟨recs ++ [cur ++ (partOf x).data], (partOf x).stop, [], false⟩) := by
          show _ = _
          unfold ReadM.put
          rw [show (partOf x).kind = 1 from HKV.out]
          rfl
        have HF : Hid (fits false (partOf x).kind = true) := by show _ = _; rw [show (partOf x).kind = 1 from HKV.out]; rfl
        obtain ⟨vo, vc, v2o, v2c, w5, rfl, hrun2, m2, m3, m4, hv5, ht5⟩ := hv2.ends (x.1 + 7 + sizeAt l x.1) (by omega) (by have := HT2.out.size; omega)
        simp only [World.size_setCell] at hrun2
        rw [show ((x.1 + 7 + sizeAt l x.1 : Nat) : Int) = (x.1 : Int) + 7 + (sizeAt l x.1 : Int) by omega] at hv5 ht5
        have HV5 := Lib.hid hv5
        have HT5 := Lib.hid (HT2.out.trans ht5 hn1)
        have o2 := m2.cell
        have r2 := m2.frozen
        have o3 := m3.cell
        have r3 := m3.frozen
        have o4 := m4.cell
        have r4 := m4.frozen
        clear k2 k3 k4 k5 kb hv1 ht1 hn1 hv2 hv5 ht5 m2 m3 m4
        gi_wp2_with (gi_at_builtin; first | (refine wpListIn_append_run _ rfl _ _ _ rfl _ _ _ _ rfl rfl hrun ?_) | (refine wpListIn_append_run _ rfl _ _ _ rfl _ _ _ _ rfl rfl hrun2 ?_))
        refine ⟨HT5.out.from I2.out (by omega), HT5.out.keeps I2.out i5, ⟨_, _, _, _, ?_, HV5.out, ?_, ?_, ?_⟩⟩
        · rw [List.map_append]
          exact (runL_snoc _ _ _ _ I1.out HF.out).trans (by rw [HP.out]; rfl)
        · simp
        · rw [List.length_append, List.length_append, List.length_singleton, List.length_singleton]; omega
        · have := HT5.out.size
          simp only [World.size_setCell] at this ⊢
          omega
      · have HKV := Lib.hid hk
        clear hk
        rw [HKV.out] at q0
        obtain ⟨uo, uc, u1o, u1c, w1, rfl, hrun, k2, k3, k4, k5, kb, hv1, ht1, hn1⟩ := I2.out.more HRD.out (by simp only; omega) hnw HBX.out
        simp only at hrun k3 k4 k5
        have d2 := k2.cell
        have g2 := k2.frozen
        have d3 := k3.cell
        have g3 := k3.frozen
        have d4 := k4.cell
        have g4 := k4.frozen
        have d5 := k5.cell
        have g5 := k5.frozen
        rw [HKV.out] at kb
        have p0 := cell_of_block kb 0
        have p1 := cell_of_block kb 1
        simp only [List.getElem?_toArray, List.getElem?_cons_zero, List.getElem?_cons_succ] at p0 p1
        have hv2 := hv1.flag true
        have HT2 := Lib.hid (ht1.trans (turn_set w _ v _ (w.heap.size + 3) (.bool true) ⟨by omega, by omega⟩) hn1)
        have HP : Hid ((⟨recs, stop, cur, false⟩ : ReadM).put (partOf x) = ⟨recs, stop, cur ++ (partOf x).data, true⟩) := by
          show _ = _
          unfold ReadM.put
          rw [show (partOf x).kind = 2 from HKV.out]
          rfl
        have HF : Hid (fits false (partOf x).kind = true) := by show _ = _; rw [show (partOf x).kind = 2 from HKV.out]; rfl
        have HV2 := Lib.hid hv2
        clear k2 k3 k4 k5 kb hv1 ht1 hn1 hv2
        gi_wp2_with (gi_at_builtin; refine wpListIn_append_run _ rfl _ _ _ rfl _ _ _ _ rfl rfl hrun ?_)
        refine ⟨HT2.out.from I2.out (by omega), HT2.out.keeps I2.out i5, ⟨_, _, _, _, ?_, HV2.out, ?_, ?_, ?_⟩⟩
        · rw [List.map_append]
          exact (runL_snoc _ _ _ _ I1.out HF.out).trans (by rw [HP.out]; rfl)
        · simp only [List.length_append, List.length_singleton]
          have := HRD.out.len
          omega
        · rw [List.length_append]; omega
        · have := HT2.out.size
          simp only [World.size_setCell] at this ⊢
          omega
      · have HKV := Lib.hid hk
        clear hk
        rw [HKV.out] at q0
        have HF : Hid (fits false (partOf x).kind = false) := by show _ = _; rw [show (partOf x).kind = 3 from HKV.out]; rfl
        clear HRD HBX
        gi_wp2
        exact ⟨(KeepsOthers.refl _).from _, rfl, _, _, _, _, fun q => by rw [List.map_append, List.append_assoc]; exact readL_stop _ q _ _ _ I1.out HF.out, I2.out, i5⟩
      · have HKV := Lib.hid hk
        clear hk
        rw [HKV.out] at q0
        have HF : Hid (fits false (partOf x).kind = false) := by show _ = _; rw [show (partOf x).kind = 4 from HKV.out]; rfl
        clear HRD HBX
        gi_wp2
        exact ⟨(KeepsOthers.refl _).from _, rfl, _, _, _, _, fun q => by rw [List.map_append, List.append_assoc]; exact readL_stop _ q _ _ _ I1.out HF.out, I2.out, i5⟩
      · have e1 : ((kindAt l x.1 : Int) == 1) = false := by rw [beq_eq_false_iff_ne]; omega
        have e2 : ((kindAt l x.1 : Int) == 2) = false := by rw [beq_eq_false_iff_ne]; omega
        have e3 : ((kindAt l x.1 : Int) == 3) = false := by rw [beq_eq_false_iff_ne]; omega
        have e4 : ((kindAt l x.1 : Int) == 4) = false := by rw [beq_eq_false_iff_ne]; omega
        have HF : Hid (fits false (partOf x).kind = false) := by show _ = _; unfold fits; rw [show (partOf x).kind = kindAt l x.1 from rfl]; simp [hk1, hk2, hk3, hk4]
        clear hk1 hk2 hk3 hk4
        clear HRD HBX
        gi_wp2
        exact ⟨(KeepsOthers.refl _).from _, rfl, _, _, _, _, fun q => by rw [List.map_append, List.append_assoc]; exact readL_stop _ q _ _ _ I1.out HF.out, I2.out, i5⟩
    | true =>
      rcases hcases with hk | hk | hk | hk | ⟨hk1, hk2, hk3, hk4⟩
      · have HKV := Lib.hid hk
        clear hk
        rw [HKV.out] at q0
        have HF : Hid (fits true (partOf x).kind = false) := by show _ = _; rw [show (partOf x).kind = 1 from HKV.out]; rfl
        clear HRD HBX
        gi_wp2
        exact ⟨(KeepsOthers.refl _).from _, rfl, _, _, _, _, fun q => by rw [List.map_append, List.append_assoc]; exact readL_stop _ q _ _ _ I1.out HF.out, I2.out, i5⟩
      · have HKV := Lib.hid hk
        clear hk
        rw [HKV.out] at q0
        have HF : Hid (fits true (partOf x).kind = false) := by show _ = _; rw [show (partOf x).kind = 2 from HKV.out]; rfl
        clear HRD HBX
        gi_wp2
        exact ⟨(KeepsOthers.refl _).from _, rfl, _, _, _, _, fun q => by rw [List.map_append, List.append_assoc]; exact readL_stop _ q _ _ _ I1.out HF.out, I2.out, i5⟩
      · have HKV := Lib.hid hk
        clear hk
        rw [HKV.out] at q0
        obtain ⟨uo, uc, u1o, u1c, w1, rfl, hrun, k2, k3, k4, k5, kb, hv1, ht1, hn1⟩ := I2.out.more HRD.out (by simp only; omega) hnw HBX.out
        simp only at hrun k3 k4 k5
        have d2 := k2.cell
        have g2 := k2.frozen
        have d3 := k3.cell
        have g3 := k3.frozen
        have d4 := k4.cell
        have g4 := k4.frozen
        have d5 := k5.cell
        have g5 := k5.frozen
        rw [HKV.out] at kb
        have p0 := cell_of_block kb 0
        have p1 := cell_of_block kb 1
        simp only [List.getElem?_toArray, List.getElem?_cons_zero, List.getElem?_cons_succ] at p0 p1
        have hv2 := hv1.flag true
        have HT2 := Lib.hid (ht1.trans (turn_set w _ v _ (w.heap.size + 3) (.bool true) ⟨by omega, by omega⟩) hn1)
        have HP : Hid ((⟨recs, stop, cur, true⟩ : ReadM).put (partOf x) = ⟨recs, stop, cur ++ (partOf x).data, true⟩) := by
          show _ = _
          unfold ReadM.put
          rw [show (partOf x).kind = 3 from HKV.out]
          rfl
        have HF : Hid (fits true (partOf x).kind = true) := by show _ = _; rw [show (partOf x).kind = 3 from HKV.out]; rfl
        have HV2 := Lib.hid hv2
        clear k2 k3 k4 k5 kb hv1 ht1 hn1 hv2
        gi_wp2_with (gi_at_builtin; refine wpListIn_append_run _ rfl _ _ _ rfl _ _ _ _ rfl rfl hrun ?_)
        refine ⟨HT2.out.from I2.out (by omega), HT2.out.keeps I2.out i5, ⟨_, _, _, _, ?_, HV2.out, ?_, ?_, ?_⟩⟩
        · rw [List.map_append]
          exact (runL_snoc _ _ _ _ I1.out HF.out).trans (by rw [HP.out]; rfl)
        · simp only [List.length_append, List.length_singleton]
          have := HRD.out.len
          omega
        · rw [List.length_append]; omega
        · have := HT2.out.size
          simp only [World.size_setCell] at this ⊢
          omega
      · have HKV := Lib.hid hk
        clear hk
        rw [HKV.out] at q0
        obtain ⟨uo, uc, u1o, u1c, w1, rfl, hrun, k2, k3, k4, k5, kb, hv1, ht1, hn1⟩ := I2.out.more HRD.out (by simp only; omega) hnw HBX.out
        simp only at hrun k3 k4 k5
        have d2 := k2.cell
        have g2 := k2.frozen
        have d3 := k3.cell
        have g3 := k3.frozen
        have d4 := k4.cell
        have g4 := k4.frozen
        have d5 := k5.cell
        have g5 := k5.frozen
        rw [HKV.out] at kb
        have p0 := cell_of_block kb 0
        have p1 := cell_of_block kb 1
        simp only [List.getElem?_toArray, List.getElem?_cons_zero, List.getElem?_cons_succ] at p0 p1
        have hv2 := hv1.flag false
        have HT2 := Lib.hid (ht1.trans (turn_set w _ v _ (w.heap.size + 3) (.bool false) ⟨by omega, by omega⟩) hn1)
        have HP : Hid ((⟨recs, stop, cur, true⟩ : ReadM).put (partOf x) = ⟨recs ++ [cur ++ (partOf x).data], (partOf x).stop, [], false⟩) := by
          show _ = _
          unfold ReadM.put
          rw [show (partOf x).kind = 4 from HKV.out]
          rfl
        have HF : Hid (fits true (partOf x).kind = true) := by show _ = _; rw [show (partOf x).kind = 4 from HKV.out]; rfl
        obtain ⟨vo, vc, v2o, v2c, w5, rfl, hrun2, m2, m3, m4, hv5, ht5⟩ := hv2.ends (x.1 + 7 + sizeAt l x.1) (by omega) (by have := HT2.out.size; omega)
        simp only [World.size_setCell] at hrun2
        rw [show ((x.1 + 7 + sizeAt l x.1 : Nat) : Int) = (x.1 : Int) + 7 + (sizeAt l x.1 : Int) by omega] at hv5 ht5
        have HV5 := Lib.hid hv5
        have HT5 := Lib.hid (HT2.out.trans ht5 hn1)
        have o2 := m2.cell
        have r2 := m2.frozen
        have o3 := m3.cell
        have r3 := m3.frozen
        have o4 := m4.cell
        have r4 := m4.frozen
        clear k2 k3 k4 k5 kb hv1 ht1 hn1 hv2 hv5 ht5 m2 m3 m4
        gi_wp2_with (gi_at_builtin; first | (refine wpListIn_append_run _ rfl _ _ _ rfl _ _ _ _ rfl rfl hrun ?_) | (refine wpListIn_append_run _ rfl _ _ _ rfl _ _ _ _ rfl rfl hrun2 ?_))
        refine ⟨HT5.out.from I2.out (by omega), HT5.out.keeps I2.out i5, ⟨_, _, _, _, ?_, HV5.out, ?_, ?_, ?_⟩⟩
        · rw [List.map_append]
          exact (runL_snoc _ _ _ _ I1.out HF.out).trans (by rw [HP.out]; rfl)
        · simp
        · rw [List.length_append, List.length_append, List.length_singleton, List.length_singleton]; omega
        · have := HT5.out.size
          simp only [World.size_setCell] at this ⊢
          omega
      · have e1 : ((kindAt l x.1 : Int) == 1) = false := by rw [beq_eq_false_iff_ne]; omega
        have e2 : ((kindAt l x.1 : Int) == 2) = false := by rw [beq_eq_false_iff_ne]; omega
        have e3 : ((kindAt l x.1 : Int) == 3) = false := by rw [beq_eq_false_iff_ne]; omega
        have e4 : ((kindAt l x.1 : Int) == 4) = false := by rw [beq_eq_false_iff_ne]; omega
        have HF : Hid (fits true (partOf x).kind = false) := by show _ = _; unfold fits; rw [show (partOf x).kind = kindAt l x.1 from rfl]; simp [hk1, hk2, hk3, hk4]
        clear hk1 hk2 hk3 hk4
        clear HRD HBX
        gi_wp2
        exact ⟨(KeepsOthers.refl _).from _, rfl, _, _, _, _, fun q => by rw [List.map_append, List.append_assoc]; exact readL_stop _ q _ _ _ I1.out HF.out, I2.out, i5⟩
  case done =>
    rintro D xs W hD rfl ⟨s, v, u, vs, i1, i2, i3, i4, i5⟩ hK
    have HS : Hid (readM l = s) := by
      show _ = _
      unfold readM
      rw [← places_read]
      exact readL_all _ _ _ i1
    obtain ⟨vo, vc, rfl⟩ := own_slice i2.ov
    have c2 := i2.b2.cell
    have c3 := i2.b3.cell
    have f2 := i2.b2.frozen
    have f3 := i2.b3.frozen
    have I2 := Lib.hid i2
    have HKD := Lib.hid hK
    clear i1 i2 hK hinit
    gi_wp2_with fail
    refine wpIn_wide.2 ?_
    go_region
    gi_wp2
    obtain ⟨hKD, hfin⟩ := I2.out.fin (by omega) HKD.out
    have z2 := hfin.b2.cell
    have z3 := hfin.b3.cell
    rw [Exit.noGoto_ret]
    refine ⟨by simp, .inl ⟨_, _, rfl, run_takeDeferred hKD, ?_⟩⟩
    refine ⟨.tuple #[.slice vo vs.length vc, .int .i64 (s.stop : Int)], ?_, ?_⟩
    · simp [results, Try.f25, go_sem, z2, z3]
    · rw [HS.out]
      exact ⟨_, rfl, recs_of hfin, hfin.below⟩
  case stop =>
    rintro D c pre W hD ⟨q, hq⟩ ⟨rfl, s, v, u, vs, i1, i2, i5⟩ hK
    have HS : Hid (readM l = s) := by
      show _ = _
      unfold readM
      rw [← places_read, ← hq, List.map_append]
      exact i1 _
    obtain ⟨vo, vc, rfl⟩ := own_slice i2.ov
    have c2 := i2.b2.cell
    have c3 := i2.b3.cell
    have f2 := i2.b2.frozen
    have f3 := i2.b3.frozen
    have I2 := Lib.hid i2
    have HKD := Lib.hid hK
    clear i1 i2 hK hinit
    gi_wp2_with fail
    refine wpIn_wide.2 ?_
    go_region
    gi_wp2
    obtain ⟨hKD, hfin⟩ := I2.out.fin (by omega) HKD.out
    have z2 := hfin.b2.cell
    have z3 := hfin.b3.cell
    rw [Exit.noGoto_ret]
    refine ⟨by simp, .inl ⟨_, _, rfl, run_takeDeferred hKD, ?_⟩⟩
    refine ⟨.tuple #[.slice vo vs.length vc, .int .i64 (s.stop : Int)], ?_, ?_⟩
    · simp [results, Try.f25, go_sem, z2, z3]
    · rw [HS.out]
      exact ⟨_, rfl, recs_of hfin, hfin.below⟩
end Go.Proofs.Ytkmanpmaflpgoaa
