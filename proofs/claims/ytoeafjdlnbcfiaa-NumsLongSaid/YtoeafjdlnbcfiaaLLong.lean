/-
  WHAT IS PROVED: the walk of NumsLong.
-/
import Derived.WideShapes
import Derived.OpenShut
import Derived.ChangeArms
import Derived.Test.YtoeafjdlnbcfiaaQuiet
import Derived.Test.YtoeafjdlnbcfiaaLDigits
namespace Go.Proofs.Ytoeafjdlnbcfiaa
open Go.RowKit

/-- ten bytes, by value -/
def Ten (cs : List Value) : Prop := ∃ x0 x1 x2 x3 x4 x5 x6 x7 x8 x9 : Nat, cs = cells8 [x0, x1, x2, x3, x4, x5, x6, x7, x8, x9] ∧ (∀ x ∈ [x0, x1, x2, x3, x4, x5, x6, x7, x8, x9], x < 256)

theorem ten_of (l : List Value) (hl : l.length = 10) (h : ∀ i, i < 10 → ∃ x : Nat, x < 256 ∧ l[i]? = some (.int .u8 (x : Int))) : Ten l := by
  match l, hl with
  | [a0, a1, a2, a3, a4, a5, a6, a7, a8, a9], _ =>
    obtain ⟨x0, b0, e0⟩ := h 0 (by omega)
    obtain ⟨x1, b1, e1⟩ := h 1 (by omega)
    obtain ⟨x2, b2, e2⟩ := h 2 (by omega)
    obtain ⟨x3, b3, e3⟩ := h 3 (by omega)
    obtain ⟨x4, b4, e4⟩ := h 4 (by omega)
    obtain ⟨x5, b5, e5⟩ := h 5 (by omega)
    obtain ⟨x6, b6, e6⟩ := h 6 (by omega)
    obtain ⟨x7, b7, e7⟩ := h 7 (by omega)
    obtain ⟨x8, b8, e8⟩ := h 8 (by omega)
    obtain ⟨x9, b9, e9⟩ := h 9 (by omega)
    simp at e0 e1 e2 e3 e4 e5 e6 e7 e8 e9
    refine ⟨x0, x1, x2, x3, x4, x5, x6, x7, x8, x9, ?_, ?_⟩
    · simp [cells8, e0, e1, e2, e3, e4, e5, e6, e7, e8, e9]
    · intro x hx; simp at hx; omega

section
variable {H : Type} {enc : TypeId × Value → H} {w : World} {base : Nat} {held : Bool}

theorem open_ten {r : Reach} {b0 : Nat} {v : Value} {d : DataW H} {p : List MemPlace} {keep : Nat → Bool}
    (hv : Value.okWide Try.prog w r b0 42 v) (h : DataW.Trod enc Try.prog w base keep held 42 v d p) : ∃ cs : List Value, v = .agg cs.toArray ∧ Ten cs := by
  have hu := Try.underlying42
  have hc : Try.prog.cellsOf 5 = 1 := by kernel_rfl
  have hc10 : Try.prog.cellsOf 42 = 10 := by kernel_rfl
  unfold Value.okWide at hv
  rw [hu] at hv
  obtain ⟨cs, rfl, hsz, _⟩ := hv
  obtain ⟨fuel, hf⟩ := h
  obtain ⟨xs, m, _, _, hl, hx, hi⟩ := Go.DataW.trod_array hu hf
  rw [hc10] at hl
  refine ⟨cs.toList, by simp, ten_of _ hl fun i hi10 => ?_⟩
  have := hi i hi10
  rw [hc, Nat.mul_one] at this
  have hxi : xs[i]? = some (xs[i]'(by omega)) := List.getElem?_eq_getElem _
  rw [hxi] at this
  obtain ⟨n, hn, _, hw⟩ := DataW.trod_int Try.underlying5 this
  have hb := wf_u8 hw
  have h1 : (Value.agg cs).cells.toList = cs.toList := rfl
  rw [h1] at hn hl
  have h2 : cs.toList[i]? = some (.int .u8 n) := by
    have : ((cs.toList.drop i).take 1)[0]? = some (.int .u8 n) := by rw [hn]; rfl
    simpa using this
  exact ⟨n.toNat, by omega, by rw [h2, Int.toNat_of_nonneg hb.1]⟩
end

theorem or128 (x : Nat) (h : x < 256) : bits .or .u8 (x : Int) 128 = ((x % 128 + 128 : Nat) : Int) := by
  have := u8_or_nat x 128 h (by omega)
  rw [show ((128 : Int)) = ((128 : Nat) : Int) from rfl, this]
  congr 1
  have h1 : ∀ y, y < 256 → y ||| 128 = y % 128 + 128 := by decide +kernel
  exact h1 x h

/-- bytes that are written out: a new block of whatever type -/
theorem row_new_t (w : World) (l : List Nat) (n B : Nat) (t : TypeId) (fr : Nat × Nat) (hB : w.heap.size = B) (hn : l.length = n) (hl : ∀ x ∈ l, x < 256) (h : n ≤ 1000) : Row8 (w.alloc (.cells (cells8 l).toArray t fr)) (some ⟨B, 0, none⟩) n n l := by
  subst hn hB
  refine ⟨rfl, Nat.le_refl _, by omega, fun h => by simp at h, fun a ha j hj => ?_, hl⟩
  obtain rfl := Option.some.inj ha
  have hadd : (⟨w.heap.size, 0, none⟩ : Addr).add j = ⟨w.heap.size, j, none⟩ := by unfold Addr.add; split <;> simp_all
  have hnew := heap_alloc_new w (.cells (cells8 l).toArray t fr)
  rw [hadd]
  refine (cell_of_row _ w.heap.size j _ _ _ hnew).trans ?_
  rw [List.getElem?_toArray]
  exact cells8_getElem? l j hj

theorem or128_ex (x : Nat) (h : x < 256) : ∃ y : Nat, bits .or .u8 (x : Int) 128 = (y : Int) ∧ 128 ≤ y ∧ y < 256 := ⟨x % 128 + 128, or128 x h, by omega, by omega⟩

set_option maxHeartbeats 2000000 in
set_option maxRecDepth 100000 in
theorem walk_NumsLong (cs : List Value) (h : Ten cs) (w : World) :
    Calls Try.prog 8 #[.agg cs.toArray] w fun e w' => e = .returned (.bool true) ∧ Below w.heap.size w w' := by
  obtain ⟨x0, x1, x2, x3, x4, x5, x6, x7, x8, x9, rfl, hx⟩ := h
  simp only [List.mem_cons, List.not_mem_nil, or_false, forall_eq_or_imp, forall_eq] at hx
  obtain ⟨b0, b1, b2, b3, b4, b5, b6, b7, b8, b9⟩ := hx
  obtain ⟨y0, o0, l0, m0⟩ := or128_ex x0 b0
  obtain ⟨y1, o1, l1, m1⟩ := or128_ex x1 b1
  obtain ⟨y2, o2, l2, m2⟩ := or128_ex x2 b2
  obtain ⟨y3, o3, l3, m3⟩ := or128_ex x3 b3
  obtain ⟨y4, o4, l4, m4⟩ := or128_ex x4 b4
  obtain ⟨y5, o5, l5, m5⟩ := or128_ex x5 b5
  obtain ⟨y6, o6, l6, m6⟩ := or128_ex x6 b6
  obtain ⟨y7, o7, l7, m7⟩ := or128_ex x7 b7
  obtain ⟨y8, o8, l8, m8⟩ := or128_ex x8 b8
  show Calls Try.prog 8 #[.agg #[.int .u8 x0, .int .u8 x1, .int .u8 x2, .int .u8 x3, .int .u8 x4, .int .u8 x5, .int .u8 x6, .int .u8 x7, .int .u8 x8, .int .u8 x9]] w _
  go_enter Try.func8, Try.ntmps8
  go_wp2
  refine wp_loop_rounds 10 ?_
  iterate 10
    rw [rounds_succ]
    go_wp2_with fail
  have hR := row_new_t w [y0, y1, y2, y3, y4, y5, y6, y7, y8, x9] 10 w.heap.size 42 (0, 0) rfl rfl (by intro x hx; simp at hx; omega) (by omega)
  obtain ⟨v, t, er, hg, hg1, hg2⟩ := getL_long y0 y1 y2 y3 y4 y5 y6 y7 y8 x9 l0 l1 l2 l3 l4 l5 l6 l7 l8
  have hn := getL_nine y0 y1 y2 y3 y4 y5 y6 y7 y8 l0 l1 l2 l3 l4 l5 l6 l7 l8
  have HG := Lib.hid hg
  have HN := Lib.hid hn
  have HR := Lib.hid hR
  clear hg hn hR
  refine (get_at _ 10 10 [y0, y1, y2, y3, y4, y5, y6, y7, y8, x9] _ HR.out v t er HG.out).mono ?_
  rintro e w1 ⟨rfl, hb1⟩
  have HB1 := Lib.hid (below_step (Below.refl w.heap.size w) hb1)
  have R1 := Lib.hid (HR.out.kept hb1)
  clear hb1 HR
  go_wp2_with fail
  refine (get_at _ 9 10 [y0, y1, y2, y3, y4, y5, y6, y7, y8] _ (R1.out.upto 9 (by omega)) 0 0 5 HN.out).mono ?_
  rintro e w2 ⟨rfl, hb2⟩
  have HB2 := Lib.hid (below_next HB1.out hb2)
  have R2 := Lib.hid (R1.out.kept hb2)
  clear hb2 HB1 R1
  go_wp2_with fail
  refine (alive_any _).mono ?_
  rintro e w3 ⟨rfl, hb3⟩
  have HB3 := Lib.hid (below_next HB2.out hb3)
  have hc := (R2.out.kept hb3).cell _ rfl 9 (by omega)
  rw [Addr.add_lit] at hc
  simp at hc
  clear hb3 HB2 R2
  by_cases hx : x9 = 1
  · obtain ⟨rfl, rfl⟩ := hg1 hx
    subst hx
    clear hg1 hg2
    go_wp2
    go_ret
    exact ⟨rfl, HB3.out⟩
  · obtain ⟨rfl, rfl⟩ := hg2 hx
    have hx1 : ((x9 : Int) == 1) = false := by rw [beq_eq_false_iff_ne]; omega
    clear hg1 hg2
    go_wp2
    go_ret
    exact ⟨rfl, HB3.out⟩
end Go.Proofs.Ytoeafjdlnbcfiaa
