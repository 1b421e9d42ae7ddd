/-
  WHAT IS PROVED: contract of the statements' many, of one slice of records and of two.
-/
import Derived.Test.YtkmanpmaflpgoaaJAlive
namespace Go.Proofs.Ytkmanpmaflpgoaa
open Go.RowKit Go.Lib

/-- more than is gone through -/
def bigR (rs : List (List Nat)) : Prop := 40 < rs.length ∨ 40000 < rs.length + bytesOf rs

/-- a slice of records that came in, within the bounds of what may come in -/
structure RowB (w : World) (ao : Option Addr) (n cap : Nat) (rs : List (List Nat)) : Prop where
  row : RowR w ao n cap rs
  few : n ≤ 140737488351232
  each : ∀ r ∈ rs, r.length ≤ 140737488351232
theorem RowB.kept {w w' : World} {ao : Option Addr} {n cap : Nat} {rs : List (List Nat)} (h : RowB w ao n cap rs) (hb : Below w.heap.size w w') : RowB w' ao n cap rs := ⟨h.row.kept hb, h.few, h.each⟩

set_option maxRecDepth 100000 in
set_option maxHeartbeats 4000000 in
theorem many_yes1 (b : Nat) (ao : Option Addr) (n cap : Nat) (rs : List (List Nat)) (w : World) (hc : w.cell? ⟨b, 0, none⟩ = some (.slice ao n cap)) (hr : RowB w ao n cap rs) (hbig : bigR rs) :
    Calls Try.prog 12 #[.slice (some ⟨b, 0, none⟩) 1 1] w fun e w' => e = .returned (.bool true) ∧ Below w.heap.size w w' := by
  obtain rfl := hr.row.len
  have H := Lib.hid hr
  have hf := hr.few
  clear hr
  unfold bigR at hbig
  by_cases h40 : 40 < rs.length
  · clear hbig
    go_enter Try.func12, Try.ntmps12
    go_wp2
    refine wp_loop_rounds 1 ?_
    rw [rounds_succ]
    go_wp2
    go_ret
    exact ⟨rfl, Below.refl _ _⟩
  · have h2 : 40000 < rs.length + bytesOf rs := by omega
    have H2 := Lib.hid h2
    clear hbig h2
    go_enter Try.func12, Try.ntmps12
    go_wp2
    refine wp_loop_rounds 1 ?_
    rw [rounds_succ]
    go_wp2_with fail
    refine (recordsSize_any ao rs.length cap rs w H.out.row H.out.few H.out.each).mono ?_
    rintro e w' ⟨v, rfl, hv, rfl⟩
    have hv2 : 40000 < v := by have := H2.out; omega
    clear hv
    go_wp2
    go_ret
    exact ⟨rfl, Below.refl _ _⟩

set_option maxRecDepth 100000 in
set_option maxHeartbeats 4000000 in
theorem many_no1 (b : Nat) (ao : Option Addr) (n cap : Nat) (rs : List (List Nat)) (w : World) (hc : w.cell? ⟨b, 0, none⟩ = some (.slice ao n cap)) (hr : RowB w ao n cap rs) (hbig : ¬ bigR rs) :
    Calls Try.prog 12 #[.slice (some ⟨b, 0, none⟩) 1 1] w fun e w' => e = .returned (.bool false) ∧ Below w.heap.size w w' := by
  obtain rfl := hr.row.len
  have H := Lib.hid hr
  have hf := hr.few
  clear hr
  unfold bigR at hbig
  have h40 : rs.length ≤ 40 := by omega
  have h2 : rs.length + bytesOf rs ≤ 40000 := by omega
  have H2 := Lib.hid h2
  clear hbig h2
  go_enter Try.func12, Try.ntmps12
  go_wp2
  refine wp_loop_rounds 2 ?_
  rw [rounds_succ]
  go_wp2_with fail
  refine (recordsSize_any ao rs.length cap rs w H.out.row H.out.few H.out.each).mono ?_
  rintro e w' ⟨v, rfl, hv, rfl⟩
  have hv2 : v ≤ 40000 := by have := H2.out; omega
  clear hv
  go_wp2
  rw [rounds_succ]
  go_wp2_with fail
  refine (alive_yes w).mono ?_
  rintro e w1 ⟨rfl, hb⟩
  have HB := Lib.hid hb
  clear hb
  go_wp2
  go_ret
  exact ⟨rfl, HB.out⟩

set_option maxRecDepth 100000 in
set_option maxHeartbeats 4000000 in
theorem many_yes2a (b : Nat) (ao bo : Option Addr) (n k cap cap2 : Nat) (rs rt : List (List Nat)) (w : World) (hc : w.cell? ⟨b, 0, none⟩ = some (.slice ao n cap)) (hc2 : w.cell? ⟨b, 1, none⟩ = some (.slice bo k cap2)) (hr : RowB w ao n cap rs) (hr2 : RowB w bo k cap2 rt) (hbig : bigR rs) :
    Calls Try.prog 12 #[.slice (some ⟨b, 0, none⟩) 2 2] w fun e w' => e = .returned (.bool true) ∧ Below w.heap.size w w' := by
  obtain rfl := hr.row.len
  obtain rfl := hr2.row.len
  have H := Lib.hid hr
  have hf := hr.few
  have HT := Lib.hid hr2
  have hf2 := hr2.few
  clear hr hr2
  by_cases h40 : 40 < rs.length
  · clear hbig
    go_enter Try.func12, Try.ntmps12
    go_wp2
    refine wp_loop_rounds 2 ?_
    rw [rounds_succ]
    go_wp2
    go_ret
    exact ⟨rfl, Below.refl _ _⟩
  · have H2 : Hid (40000 < rs.length + bytesOf rs) := by show _ < _; unfold bigR at hbig; omega
    clear hbig
    go_enter Try.func12, Try.ntmps12
    go_wp2
    refine wp_loop_rounds 2 ?_
    rw [rounds_succ]
    go_wp2_with fail
    refine (recordsSize_any ao rs.length cap rs w H.out.row H.out.few H.out.each).mono ?_
    rintro e w' ⟨v, rfl, hv, rfl⟩
    have hv2 : 40000 < v := by have := H2.out; omega
    clear hv
    go_wp2
    go_ret
    exact ⟨rfl, Below.refl _ _⟩

set_option maxRecDepth 100000 in
set_option maxHeartbeats 4000000 in
theorem many_yes2b (b : Nat) (ao bo : Option Addr) (n k cap cap2 : Nat) (rs rt : List (List Nat)) (w : World) (hc : w.cell? ⟨b, 0, none⟩ = some (.slice ao n cap)) (hc2 : w.cell? ⟨b, 1, none⟩ = some (.slice bo k cap2)) (hr : RowB w ao n cap rs) (hr2 : RowB w bo k cap2 rt) (hno : ¬ bigR rs) (hbig : bigR rt) :
    Calls Try.prog 12 #[.slice (some ⟨b, 0, none⟩) 2 2] w fun e w' => e = .returned (.bool true) ∧ Below w.heap.size w w' := by
  obtain rfl := hr.row.len
  obtain rfl := hr2.row.len
  have H := Lib.hid hr
  have hf := hr.few
  have HT := Lib.hid hr2
  have hf2 := hr2.few
  clear hr hr2
  have h40rs : rs.length ≤ 40 := by unfold bigR at hno; omega
  have N2 : Hid (rs.length + bytesOf rs ≤ 40000) := by show _ ≤ _; unfold bigR at hno; omega
  clear hno
  by_cases h40 : 40 < rt.length
  · clear hbig
    go_enter Try.func12, Try.ntmps12
    go_wp2
    refine wp_loop_rounds 2 ?_
    rw [rounds_succ]
    go_wp2_with fail
    refine (recordsSize_any ao rs.length cap rs w H.out.row H.out.few H.out.each).mono ?_
    rintro e w' ⟨v, rfl, hv, rfl⟩
    have hv2 : v ≤ 40000 := by have := N2.out; omega
    clear hv
    go_wp2
    clear hv2
    rw [rounds_succ]
    go_wp2
    go_ret
    exact ⟨rfl, Below.refl _ _⟩
  · have H2 : Hid (40000 < rt.length + bytesOf rt) := by show _ < _; unfold bigR at hbig; omega
    clear hbig
    go_enter Try.func12, Try.ntmps12
    go_wp2
    refine wp_loop_rounds 2 ?_
    rw [rounds_succ]
    go_wp2_with fail
    refine (recordsSize_any ao rs.length cap rs w H.out.row H.out.few H.out.each).mono ?_
    rintro e w' ⟨v, rfl, hv, rfl⟩
    have hv2 : v ≤ 40000 := by have := N2.out; omega
    clear hv
    go_wp2
    clear hv2
    rw [rounds_succ]
    go_wp2_with fail
    refine (recordsSize_any bo rt.length cap2 rt w HT.out.row HT.out.few HT.out.each).mono ?_
    rintro e w' ⟨v, rfl, hv, rfl⟩
    have hv2 : 40000 < v := by have := H2.out; omega
    clear hv
    go_wp2
    go_ret
    exact ⟨rfl, Below.refl _ _⟩

set_option maxRecDepth 100000 in
set_option maxHeartbeats 4000000 in
theorem many_no2 (b : Nat) (ao bo : Option Addr) (n k cap cap2 : Nat) (rs rt : List (List Nat)) (w : World) (hc : w.cell? ⟨b, 0, none⟩ = some (.slice ao n cap)) (hc2 : w.cell? ⟨b, 1, none⟩ = some (.slice bo k cap2)) (hr : RowB w ao n cap rs) (hr2 : RowB w bo k cap2 rt) (hno : ¬ bigR rs) (hno2 : ¬ bigR rt) :
    Calls Try.prog 12 #[.slice (some ⟨b, 0, none⟩) 2 2] w fun e w' => e = .returned (.bool false) ∧ Below w.heap.size w w' := by
  obtain rfl := hr.row.len
  obtain rfl := hr2.row.len
  have H := Lib.hid hr
  have hf := hr.few
  have HT := Lib.hid hr2
  have hf2 := hr2.few
  clear hr hr2
  have h40rs : rs.length ≤ 40 := by unfold bigR at hno; omega
  have N2 : Hid (rs.length + bytesOf rs ≤ 40000) := by show _ ≤ _; unfold bigR at hno; omega
  clear hno
  have h40rt : rt.length ≤ 40 := by unfold bigR at hno2; omega
  have M2 : Hid (rt.length + bytesOf rt ≤ 40000) := by show _ ≤ _; unfold bigR at hno2; omega
  clear hno2
  go_enter Try.func12, Try.ntmps12
  go_wp2
  refine wp_loop_rounds 3 ?_
  rw [rounds_succ]
  go_wp2_with fail
  refine (recordsSize_any ao rs.length cap rs w H.out.row H.out.few H.out.each).mono ?_
  rintro e w' ⟨v, rfl, hv, rfl⟩
  have hv2 : v ≤ 40000 := by have := N2.out; omega
  clear hv
  go_wp2
  clear hv2
  rw [rounds_succ]
  go_wp2_with fail
  refine (recordsSize_any bo rt.length cap2 rt w HT.out.row HT.out.few HT.out.each).mono ?_
  rintro e w' ⟨v, rfl, hv, rfl⟩
  have hv2 : v ≤ 40000 := by have := M2.out; omega
  clear hv
  go_wp2
  clear hv2
  rw [rounds_succ]
  go_wp2_with fail
  refine (alive_yes w).mono ?_
  rintro e w1 ⟨rfl, hb⟩
  have HB := Lib.hid hb
  clear hb
  go_wp2
  go_ret
  exact ⟨rfl, HB.out⟩
end Go.Proofs.Ytkmanpmaflpgoaa
