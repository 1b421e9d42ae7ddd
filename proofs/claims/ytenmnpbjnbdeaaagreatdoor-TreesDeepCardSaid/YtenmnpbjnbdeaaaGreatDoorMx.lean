/-
  WHAT IS PROVED: whether all of a list may be.
-/
import Derived.Test.YtenmnpbjnbdeaaaGreatDoorMt
import Derived.Test.YtenmnpbjnbdeaaaGreatDoorMv
namespace Go.Proofs.YtenmnpbjnbdeaaaGreatDoor
section
open Go.RowKit Go.Shelf
set_option linter.unusedVariables false

theorem World.rangeAt.below {w W : World} {n g o : Nat} {cs : List Value} (h : w.rangeAt g o cs) (hg : g < w.heap.size) (hb : Below w.heap.size w W) : W.rangeAt g o cs := fun j v hj => (World.cell?_of_block (hb.block g hg)).trans (h j v hj)
theorem Below.laid {w W : World} {n : Nat} (h : Below n w W) (hn : n ≤ W.heap.size) (o : Obj) (cs : Array Value) : Below n w ((W.alloc o).setRow W.heap.size cs) := by
  refine ⟨h.os, h.tape, h.output, ?_, fun k hk => ?_⟩
  · have := h.size; simp; omega
  · exact (setRow_other _ _ _ _ (by omega)).trans ((heap_alloc_old _ _ (by omega)).trans (h.block k hk))
/-- the slice v reads as these, from wherever on -/
def RowAt {α : Type} (E : Elt α) (P : Nat → Prop) (w : World) (v : Value) (l : List α) : Prop :=
  (v = .slice none 0 0 ∧ l = []) ∨ ∃ g o cap css, v = .slice (some ⟨g, o, none⟩) l.length cap ∧ l.length ≤ cap ∧ cap ≤ 9223372036854775807 ∧ g < w.heap.size ∧ All2 (E.is P w) css l ∧ ∀ (j : Nat) (u : Value), css.flatten[j]? = some u → w.cell? ⟨g, o + j, none⟩ = some u
theorem RowOf.from0 {α : Type} {E : Elt α} {P : Nat → Prop} {w : World} {v : Value} {l : List α} (h : RowOf E P w v l) : RowAt E P w v l := by
  rcases h with h | ⟨g, cap, css, h1, h2, h3, _, h4, h5, h6⟩
  · exact .inl h
  · exact .inr ⟨g, 0, cap, css, h1, h2, h3, h4, h5, fun j u hj => by rw [Nat.zero_add]; exact h6 j u hj⟩
theorem RowAt.slice {α : Type} {E : Elt α} {P : Nat → Prop} {w : World} {v : Value} {l : List α} (h : RowAt E P w v l) : ∃ ao cap, v = .slice ao l.length cap ∧ l.length ≤ cap ∧ cap ≤ 9223372036854775807 := by
  rcases h with ⟨rfl, rfl⟩ | ⟨g, o, cap, css, rfl, h1, h2, _⟩
  · exact ⟨_, _, rfl, Nat.le_refl _, by omega⟩
  · exact ⟨_, _, rfl, h1, h2⟩
theorem RowAt.kept {α : Type} {E : Elt α} {P : Nat → Prop} {w w' : World} {v : Value} {l : List α} (h : RowAt E P w v l) (hb : Below w.heap.size w w') : RowAt E P w' v l := by
  rcases h with h | ⟨g, o, cap, css, e, h1, h2, h4, h5, h6⟩
  · exact .inl h
  · exact .inr ⟨g, o, cap, css, e, h1, h2, Nat.lt_of_lt_of_le h4 hb.size, h5.imp (fun a b q => E.kept q hb.size (fun k _ hk => hb.block k hk)), fun j u hu => (World.cell?_of_block (hb.block g h4)).trans (h6 j u hu)⟩
theorem RowAt.tail {α : Type} {E : Elt α} {P : Nat → Prop} {w : World} {g o cap n : Nat} {x : α} {l : List α} (h : RowAt E P w (.slice (some ⟨g, o, none⟩) n cap) (x :: l)) : RowAt E P w (.slice (some ⟨g, o + E.sz, none⟩) (n - 1) (cap - 1)) l := by
  rcases h with ⟨h, _⟩ | ⟨g', o', cap', css, e, h1, h2, h4, h5, h6⟩
  · cases h
  · injection e with e1 e2 e3
    injection e1 with e1
    injection e1 with e4 e5
    subst e4 e5 e2 e3
    cases css with
    | nil => exact h5.elim
    | cons cs css =>
      have hl := E.len h5.1
      refine .inr ⟨_, o + E.sz, cap - 1, css, by rw [List.length_cons, Nat.add_sub_cancel], ?_, by omega, h4, h5.2, fun j u hj => ?_⟩
      · simp only [List.length_cons] at h1; omega
      · have := h6 (E.sz + j) u (by rw [List.flatten_cons, List.getElem?_append_right (by omega), hl, Nat.add_sub_cancel_left]; exact hj)
        rwa [← Nat.add_assoc] at this
theorem row_atO {α : Type} {E : Elt α} {P : Nat → Prop} {w : World} {css : List (List Value)} {l d : List α} {x : α} {r : List α} {g o : Nat} (q : All2 (E.is P w) css l) (hc : ∀ (j : Nat) (u : Value), css.flatten[j]? = some u → w.cell? ⟨g, o + j, none⟩ = some u) (e : l = d ++ x :: r) :
    ∃ cs, E.is P w cs x ∧ w.rangeAt g (o + d.length * E.sz) cs := by
  obtain ⟨cd, cs, cr, h1, h2, h3⟩ := q.at_ e
  refine ⟨cs, h3, fun j v hj => ?_⟩
  have hlt : j < cs.length := (List.getElem?_eq_some_iff.1 hj).1
  rw [Nat.add_assoc]
  refine hc _ v ?_
  rw [h1, List.flatten_append, List.flatten_cons, ← All2.flat h2, List.getElem?_append_right (by omega), Nat.add_sub_cancel_left, List.getElem?_append_left hlt]
  exact hj
theorem all_one {α : Type} {E : Elt α} {P : Nat → Prop} {w : World} {cs : List Value} {x : α} (h : E.is P w cs x) : cs.toArray.all (·.oneCell') = true := by
  rw [← Array.all_toList]
  exact List.all_eq_true.2 (E.one h)
set_option maxRecDepth 100000 in
set_option maxHeartbeats 4000000 in
theorem allStr_may (fn most : Nat) (hm : most ≤ 1000) (hcf : ∀ (args : Array Value) (w : World), (callFunc fn args).run Tryz.prog w = .ok (.enter fn args) w) (B : List UInt8 → Bool) (R : List UInt8 → Prop)
    (hf : ∀ (W : World) (cs : List Value) (x : List UInt8), strE.is (fun _ => True) W cs x → R x → Calls Tryz.prog fn #[cs.headD undef] W fun e w' => e = .returned (.bool (B x)) ∧ Below W.heap.size W w')
    (v : Value) (l : List (List UInt8)) (w : World) (hv : RowAt strE (fun _ => True) w v l) (hR : ∀ x ∈ l, R x) :
    Calls Tryz.prog 65 #[v, .int .i64 (most : Int), .func (.func fn) #[] #[]] w fun e w' => e = .returned (.bool (allB most B l)) ∧ Below w.heap.size w w' := by
  obtain ⟨n, hn⟩ : ∃ n, l.length = n := ⟨_, rfl⟩
  by_cases h0 : n = 0
  · obtain ⟨ao, cap, rfl, _⟩ := hv.slice
    have k0 : ((n : Int) == 0) = true := by rw [h0]; rfl
    have he : allB most B l = false := by unfold allB; rw [hn, h0]; rfl
    rw [hn, he]
    clear he hv hR hn hf h0
    go_enter Tryz.func65, Tryz.ntmps65
    go_wp2
    all_goals go_ret
    all_goals exact ⟨rfl, Below.refl _ _⟩
  have k0 : ((n : Int) == 0) = false := by rw [beq_eq_false_iff_ne]; omega
  by_cases h1 : most < n
  · obtain ⟨ao, cap, rfl, _⟩ := hv.slice
    have k1 : (most : Int) < (n : Int) := by omega
    have he : allB most B l = false := by
      have : ¬ n ≤ most := by omega
      unfold allB; rw [hn, decide_eq_false this]; simp
    rw [hn, he]
    clear he hv hR hn hf h0 h1
    go_enter Tryz.func65, Tryz.ntmps65
    go_wp2
    all_goals go_ret
    all_goals exact ⟨rfl, Below.refl _ _⟩
  have k1 : ¬ (most : Int) < (n : Int) := by omega
  have he : allB most B l = l.all B := by
    unfold allB; rw [hn, decide_eq_true (show n ≤ most by omega)]
    have : (n != 0) = true := by simp [h0]
    rw [this]; rfl
  rw [he]
  rcases hv with ⟨rfl, rfl⟩ | ⟨g, o, cap, css, rfl, h2, h3, h4, h5, h6⟩
  · exact absurd hn.symm h0
  rw [hn]
  have HAT := Lib.hid (And.intro h4 (And.intro h5 h6))
  have HN := Lib.hid hn
  have HR := Lib.hid hR
  have hcap : n ≤ cap := by omega
  clear he h4 h5 h6 hn hR h2
  go_enter Tryz.func65, Tryz.ntmps65
  go_wp2_with fail
  go_loopw [20] (fun iv wr => ∃ (i : Nat) (d rm : List (List UInt8)), iv = .int .i64 (i : Int) ∧ Hid (l = d ++ rm ∧ d.length = i) ∧ Hid (Below w.heap.size w wr) ∧ Hid (l.all B = rm.all B)) (fun iv _ => n - (RowKit.intOf iv).toNat)
  case atStart => exact ⟨0, [], l, rfl, Lib.hid ⟨rfl, rfl⟩, Lib.hid (Below.refl _ _), Lib.hid rfl⟩
  case round =>
    obtain ⟨i, d, rm, rfl, HD, HB, HA⟩ := hrel
    cases rm with
    | nil =>
      have hge : ¬ i < n := by have h := HD.out; have h2 := HN.out; rw [h.1] at h2; simp at h2; omega
      go_wp2_with fail
      go_ret
      exact ⟨by rw [HA.out]; rfl, HB.out⟩
    | cons x rm =>
      have hlt : i < n := by have h := HD.out; have h2 := HN.out; rw [h.1] at h2; simp at h2; omega
      obtain ⟨cs, hx, hrg⟩ := row_atO HAT.out.2.1 HAT.out.2.2 HD.out.1
      rw [HD.out.2] at hrg
      have HRX := Lib.hid (HR.out x (by rw [HD.out.1]; simp))
      have hcl := strE.len hx
      have HX := Lib.hid hx
      have HD2 : Hid (l = (d ++ [x]) ++ rm ∧ (d ++ [x]).length = i + 1) := Lib.hid ⟨by rw [HD.out.1]; simp, by rw [List.length_append, HD.out.2]; rfl⟩
      obtain ⟨u, hcs⟩ : ∃ u, cs = [u] := by
        match cs, hcl with
        | [u], _ => exact ⟨u, rfl⟩
      subst hcs
      have hc := (World.cell?_of_block (HB.out.block g HAT.out.1)).trans (hrg 0 u rfl)
      rw [show o + i * strE.sz + 0 = o + i from by show o + i * 1 + 0 = o + i; omega] at hc
      have hC := hf wr [u] x (strE.kept HX.out HB.out.size (fun k _ hk => HB.out.block k hk)) HRX.out
      have hu : ∃ z, u = z := ⟨_, rfl⟩
      clear hrg hcl hx
      have hux : u = .string (strU x) := by have := HX.out; unfold strE at this; injection this
      subst hux
      clear hu
      cases hb : B x with
      | false =>
        have HF : Hid (l.all B = false) := Lib.hid (by show _ = _; rw [HA.out, List.all_cons, hb]; rfl)
        rw [hb] at hC
        clear hb
        go_wp2_with fail
        refine hC.mono ?_
        rintro e w5 ⟨rfl, hb5⟩
        have HB5 := Lib.hid (HB.out.trans (hb5.mono HB.out.size))
        clear hb5
        go_wp2_with fail
        go_ret
        exact ⟨by rw [HF.out]; rfl, HB5.out⟩
      | true =>
        have HF : Hid (l.all B = rm.all B) := Lib.hid (by show _ = _; rw [HA.out, List.all_cons, hb]; rfl)
        rw [hb] at hC
        clear hb
        go_wp2_with fail
        refine hC.mono ?_
        rintro e w5 ⟨rfl, hb5⟩
        have HB5 := Lib.hid (HB.out.trans (hb5.mono HB.out.size))
        clear hb5
        go_wp2_with fail
        go_roundw
        case rel => exact ⟨i + 1, d ++ [x], rm, rfl, HD2, HB5, HF⟩
        case measure => simp only [RowKit.intOf]; omega
set_option maxRecDepth 100000 in
set_option maxHeartbeats 4000000 in
theorem allRow_may (fn most : Nat) (hm : most ≤ 1000) (hcf : ∀ (args : Array Value) (w : World), (callFunc fn args).run Tryz.prog w = .ok (.enter fn args) w) (B : List Ex → Bool) (R : List Ex → Prop)
    (hf : ∀ (W : World) (cs : List Value) (x : List Ex), rowE.is (fun _ => True) W cs x → R x → Calls Tryz.prog fn #[cs.headD undef] W fun e w' => e = .returned (.bool (B x)) ∧ Below W.heap.size W w')
    (v : Value) (l : List (List Ex)) (w : World) (hv : RowAt rowE (fun _ => True) w v l) (hR : ∀ x ∈ l, R x) :
    Calls Tryz.prog 67 #[v, .int .i64 (most : Int), .func (.func fn) #[] #[]] w fun e w' => e = .returned (.bool (allB most B l)) ∧ Below w.heap.size w w' := by
  obtain ⟨n, hn⟩ : ∃ n, l.length = n := ⟨_, rfl⟩
  by_cases h0 : n = 0
  · obtain ⟨ao, cap, rfl, _⟩ := hv.slice
    have k0 : ((n : Int) == 0) = true := by rw [h0]; rfl
    have he : allB most B l = false := by unfold allB; rw [hn, h0]; rfl
    rw [hn, he]
    clear he hv hR hn hf h0
    go_enter Tryz.func67, Tryz.ntmps67
    go_wp2
    all_goals go_ret
    all_goals exact ⟨rfl, Below.refl _ _⟩
  have k0 : ((n : Int) == 0) = false := by rw [beq_eq_false_iff_ne]; omega
  by_cases h1 : most < n
  · obtain ⟨ao, cap, rfl, _⟩ := hv.slice
    have k1 : (most : Int) < (n : Int) := by omega
    have he : allB most B l = false := by
      have : ¬ n ≤ most := by omega
      unfold allB; rw [hn, decide_eq_false this]; simp
    rw [hn, he]
    clear he hv hR hn hf h0 h1
    go_enter Tryz.func67, Tryz.ntmps67
    go_wp2
    all_goals go_ret
    all_goals exact ⟨rfl, Below.refl _ _⟩
  have k1 : ¬ (most : Int) < (n : Int) := by omega
  have he : allB most B l = l.all B := by
    unfold allB; rw [hn, decide_eq_true (show n ≤ most by omega)]
    have : (n != 0) = true := by simp [h0]
    rw [this]; rfl
  rw [he]
  rcases hv with ⟨rfl, rfl⟩ | ⟨g, o, cap, css, rfl, h2, h3, h4, h5, h6⟩
  · exact absurd hn.symm h0
  rw [hn]
  have HAT := Lib.hid (And.intro h4 (And.intro h5 h6))
  have HN := Lib.hid hn
  have HR := Lib.hid hR
  have hcap : n ≤ cap := by omega
  clear he h4 h5 h6 hn hR h2
  go_enter Tryz.func67, Tryz.ntmps67
  go_wp2_with fail
  go_loopw [20] (fun iv wr => ∃ (i : Nat) (d rm : List (List Ex)), iv = .int .i64 (i : Int) ∧ Hid (l = d ++ rm ∧ d.length = i) ∧ Hid (Below w.heap.size w wr) ∧ Hid (l.all B = rm.all B)) (fun iv _ => n - (RowKit.intOf iv).toNat)
  case atStart => exact ⟨0, [], l, rfl, Lib.hid ⟨rfl, rfl⟩, Lib.hid (Below.refl _ _), Lib.hid rfl⟩
  case round =>
    obtain ⟨i, d, rm, rfl, HD, HB, HA⟩ := hrel
    cases rm with
    | nil =>
      have hge : ¬ i < n := by have h := HD.out; have h2 := HN.out; rw [h.1] at h2; simp at h2; omega
      go_wp2_with fail
      go_ret
      exact ⟨by rw [HA.out]; rfl, HB.out⟩
    | cons x rm =>
      have hlt : i < n := by have h := HD.out; have h2 := HN.out; rw [h.1] at h2; simp at h2; omega
      obtain ⟨cs, hx, hrg⟩ := row_atO HAT.out.2.1 HAT.out.2.2 HD.out.1
      rw [HD.out.2] at hrg
      have HRX := Lib.hid (HR.out x (by rw [HD.out.1]; simp))
      have hcl := rowE.len hx
      have HX := Lib.hid hx
      have HD2 : Hid (l = (d ++ [x]) ++ rm ∧ (d ++ [x]).length = i + 1) := Lib.hid ⟨by rw [HD.out.1]; simp, by rw [List.length_append, HD.out.2]; rfl⟩
      obtain ⟨u, hcs⟩ : ∃ u, cs = [u] := by
        match cs, hcl with
        | [u], _ => exact ⟨u, rfl⟩
      subst hcs
      have hc := (World.cell?_of_block (HB.out.block g HAT.out.1)).trans (hrg 0 u rfl)
      rw [show o + i * rowE.sz + 0 = o + i from by show o + i * 1 + 0 = o + i; omega] at hc
      have hC := hf wr [u] x (rowE.kept HX.out HB.out.size (fun k _ hk => HB.out.block k hk)) HRX.out
      have hu : ∃ z, u = z := ⟨_, rfl⟩
      clear hrg hcl hx
      obtain ⟨au, nu, cu, hux⟩ : ∃ a b c, u = .slice a b c := by obtain ⟨u2, h1, h2⟩ := HX.out; injection h1 with h1; subst h1; exact h2.slice
      subst hux
      clear hu
      cases hb : B x with
      | false =>
        have HF : Hid (l.all B = false) := Lib.hid (by show _ = _; rw [HA.out, List.all_cons, hb]; rfl)
        rw [hb] at hC
        clear hb
        go_wp2_with fail
        refine hC.mono ?_
        rintro e w5 ⟨rfl, hb5⟩
        have HB5 := Lib.hid (HB.out.trans (hb5.mono HB.out.size))
        clear hb5
        go_wp2_with fail
        go_ret
        exact ⟨by rw [HF.out]; rfl, HB5.out⟩
      | true =>
        have HF : Hid (l.all B = rm.all B) := Lib.hid (by show _ = _; rw [HA.out, List.all_cons, hb]; rfl)
        rw [hb] at hC
        clear hb
        go_wp2_with fail
        refine hC.mono ?_
        rintro e w5 ⟨rfl, hb5⟩
        have HB5 := Lib.hid (HB.out.trans (hb5.mono HB.out.size))
        clear hb5
        go_wp2_with fail
        go_roundw
        case rel => exact ⟨i + 1, d ++ [x], rm, rfl, HD2, HB5, HF⟩
        case measure => simp only [RowKit.intOf]; omega
set_option maxRecDepth 100000 in
set_option maxHeartbeats 4000000 in
theorem allEx_may (fn most : Nat) (hm : most ≤ 1000) (hcf : ∀ (args : Array Value) (w : World), (callFunc fn args).run Tryz.prog w = .ok (.enter fn args) w) (B : Ex → Bool) (R : Ex → Prop)
    (hf : ∀ (W : World) (cs : List Value) (x : Ex), exE.is (fun _ => True) W cs x → R x → Calls Tryz.prog fn #[.agg cs.toArray] W fun e w' => e = .returned (.bool (B x)) ∧ Below W.heap.size W w')
    (v : Value) (l : List (Ex)) (w : World) (hv : RowAt exE (fun _ => True) w v l) (hR : ∀ x ∈ l, R x) :
    Calls Tryz.prog 116 #[v, .int .i64 (most : Int), .func (.func fn) #[] #[]] w fun e w' => e = .returned (.bool (allB most B l)) ∧ Below w.heap.size w w' := by
  obtain ⟨n, hn⟩ : ∃ n, l.length = n := ⟨_, rfl⟩
  by_cases h0 : n = 0
  · obtain ⟨ao, cap, rfl, _⟩ := hv.slice
    have k0 : ((n : Int) == 0) = true := by rw [h0]; rfl
    have he : allB most B l = false := by unfold allB; rw [hn, h0]; rfl
    rw [hn, he]
    clear he hv hR hn hf h0
    go_enter Tryz.func116, Tryz.ntmps116
    go_wp2
    all_goals go_ret
    all_goals exact ⟨rfl, Below.refl _ _⟩
  have k0 : ((n : Int) == 0) = false := by rw [beq_eq_false_iff_ne]; omega
  by_cases h1 : most < n
  · obtain ⟨ao, cap, rfl, _⟩ := hv.slice
    have k1 : (most : Int) < (n : Int) := by omega
    have he : allB most B l = false := by
      have : ¬ n ≤ most := by omega
      unfold allB; rw [hn, decide_eq_false this]; simp
    rw [hn, he]
    clear he hv hR hn hf h0 h1
    go_enter Tryz.func116, Tryz.ntmps116
    go_wp2
    all_goals go_ret
    all_goals exact ⟨rfl, Below.refl _ _⟩
  have k1 : ¬ (most : Int) < (n : Int) := by omega
  have he : allB most B l = l.all B := by
    unfold allB; rw [hn, decide_eq_true (show n ≤ most by omega)]
    have : (n != 0) = true := by simp [h0]
    rw [this]; rfl
  rw [he]
  rcases hv with ⟨rfl, rfl⟩ | ⟨g, o, cap, css, rfl, h2, h3, h4, h5, h6⟩
  · exact absurd hn.symm h0
  rw [hn]
  have HAT := Lib.hid (And.intro h4 (And.intro h5 h6))
  have HN := Lib.hid hn
  have HR := Lib.hid hR
  have hcap : n ≤ cap := by omega
  clear he h4 h5 h6 hn hR h2
  go_enter Tryz.func116, Tryz.ntmps116
  go_wp2_with fail
  go_loopw [20] (fun iv wr => ∃ (i : Nat) (d rm : List (Ex)), iv = .int .i64 (i : Int) ∧ Hid (l = d ++ rm ∧ d.length = i) ∧ Hid (Below w.heap.size w wr) ∧ Hid (l.all B = rm.all B)) (fun iv _ => n - (RowKit.intOf iv).toNat)
  case atStart => exact ⟨0, [], l, rfl, Lib.hid ⟨rfl, rfl⟩, Lib.hid (Below.refl _ _), Lib.hid rfl⟩
  case round =>
    obtain ⟨i, d, rm, rfl, HD, HB, HA⟩ := hrel
    cases rm with
    | nil =>
      have hge : ¬ i < n := by have h := HD.out; have h2 := HN.out; rw [h.1] at h2; simp at h2; omega
      go_wp2_with fail
      go_ret
      exact ⟨by rw [HA.out]; rfl, HB.out⟩
    | cons x rm =>
      have hlt : i < n := by have h := HD.out; have h2 := HN.out; rw [h.1] at h2; simp at h2; omega
      obtain ⟨cs, hx, hrg⟩ := row_atO HAT.out.2.1 HAT.out.2.2 HD.out.1
      rw [HD.out.2] at hrg
      have HRX := Lib.hid (HR.out x (by rw [HD.out.1]; simp))
      have hcl := exE.len hx
      have HX := Lib.hid hx
      have HD2 : Hid (l = (d ++ [x]) ++ rm ∧ (d ++ [x]).length = i + 1) := Lib.hid ⟨by rw [HD.out.1]; simp, by rw [List.length_append, HD.out.2]; rfl⟩
      have HRG := Lib.hid (World.rangeAt.below (n := 0) hrg HAT.out.1 HB.out)
      have HI : Hid ((Tryz.prog.info? 36).map (·.size) = some cs.length) := Lib.hid (by show _ = _; rw [hcl]; kernel_rfl)
      have HI2 : Hid ((Tryz.prog.info? 36).map (·.size) = some cs.toArray.size) := Lib.hid (by show _ = _; rw [List.size_toArray, hcl]; kernel_rfl)
      have HZ : Hid (9 = cs.toArray.size) := Lib.hid (by show _ = _; rw [List.size_toArray, hcl]; rfl)
      have HO := Lib.hid (all_one HX.out)
      have hC := fun W (hb : Below w.heap.size w W) => hf W cs x (exE.kept HX.out hb.size (fun k _ hk => hb.block k hk)) HRX.out
      clear hrg hcl hx
      cases hb : B x with
      | false =>
        have HF : Hid (l.all B = false) := Lib.hid (by show _ = _; rw [HA.out, List.all_cons, hb]; rfl)
        rw [hb] at hC
        clear hb
        go_wp2_with (first
          | (refine wpList_load_mid rfl 36 _ rfl g (o + i * 9) rfl cs _ HRG.out Tryz.underlying36 rfl HI.out ?_)
          | (refine wpList_store_row rfl 36 _ _ rfl wr.heap.size cs.toArray rfl rfl _ _ (heap_alloc_new _ _) HI2.out HZ.out HO.out ?_)
          | (refine wpList_load_row rfl 36 _ rfl wr.heap.size rfl _ cs.toArray (0, 0) _ (setRow_heap _ _ _ _ _ _ (heap_alloc_new _ _)) Tryz.underlying36 rfl HI2.out ?_))
        refine (hC _ (Below.laid HB.out HB.out.size _ _)).mono ?_
        rintro e w5 ⟨rfl, hb5⟩
        have HB5 := Lib.hid ((Below.laid HB.out HB.out.size _ _).trans (hb5.mono (Below.laid HB.out HB.out.size _ _).size))
        clear hb5
        go_wp2_with fail
        go_ret
        exact ⟨by rw [HF.out]; rfl, HB5.out⟩
      | true =>
        have HF : Hid (l.all B = rm.all B) := Lib.hid (by show _ = _; rw [HA.out, List.all_cons, hb]; rfl)
        rw [hb] at hC
        clear hb
        go_wp2_with (first
          | (refine wpList_load_mid rfl 36 _ rfl g (o + i * 9) rfl cs _ HRG.out Tryz.underlying36 rfl HI.out ?_)
          | (refine wpList_store_row rfl 36 _ _ rfl wr.heap.size cs.toArray rfl rfl _ _ (heap_alloc_new _ _) HI2.out HZ.out HO.out ?_)
          | (refine wpList_load_row rfl 36 _ rfl wr.heap.size rfl _ cs.toArray (0, 0) _ (setRow_heap _ _ _ _ _ _ (heap_alloc_new _ _)) Tryz.underlying36 rfl HI2.out ?_))
        refine (hC _ (Below.laid HB.out HB.out.size _ _)).mono ?_
        rintro e w5 ⟨rfl, hb5⟩
        have HB5 := Lib.hid ((Below.laid HB.out HB.out.size _ _).trans (hb5.mono (Below.laid HB.out HB.out.size _ _).size))
        clear hb5
        go_wp2_with fail
        go_roundw
        case rel => exact ⟨i + 1, d ++ [x], rm, rfl, HD2, HB5, HF⟩
        case measure => simp only [RowKit.intOf]; omega
set_option maxRecDepth 100000 in
set_option maxHeartbeats 4000000 in
theorem allItem_may (fn most : Nat) (hm : most ≤ 1000) (hcf : ∀ (args : Array Value) (w : World), (callFunc fn args).run Tryz.prog w = .ok (.enter fn args) w) (B : ItemM → Bool) (R : ItemM → Prop)
    (hf : ∀ (W : World) (cs : List Value) (x : ItemM), itemE.is (fun _ => True) W cs x → R x → Calls Tryz.prog fn #[.agg cs.toArray] W fun e w' => e = .returned (.bool (B x)) ∧ Below W.heap.size W w')
    (v : Value) (l : List (ItemM)) (w : World) (hv : RowAt itemE (fun _ => True) w v l) (hR : ∀ x ∈ l, R x) :
    Calls Tryz.prog 140 #[v, .int .i64 (most : Int), .func (.func fn) #[] #[]] w fun e w' => e = .returned (.bool (allB most B l)) ∧ Below w.heap.size w w' := by
  obtain ⟨n, hn⟩ : ∃ n, l.length = n := ⟨_, rfl⟩
  by_cases h0 : n = 0
  · obtain ⟨ao, cap, rfl, _⟩ := hv.slice
    have k0 : ((n : Int) == 0) = true := by rw [h0]; rfl
    have he : allB most B l = false := by unfold allB; rw [hn, h0]; rfl
    rw [hn, he]
    clear he hv hR hn hf h0
    go_enter Tryz.func140, Tryz.ntmps140
    go_wp2
    all_goals go_ret
    all_goals exact ⟨rfl, Below.refl _ _⟩
  have k0 : ((n : Int) == 0) = false := by rw [beq_eq_false_iff_ne]; omega
  by_cases h1 : most < n
  · obtain ⟨ao, cap, rfl, _⟩ := hv.slice
    have k1 : (most : Int) < (n : Int) := by omega
    have he : allB most B l = false := by
      have : ¬ n ≤ most := by omega
      unfold allB; rw [hn, decide_eq_false this]; simp
    rw [hn, he]
    clear he hv hR hn hf h0 h1
    go_enter Tryz.func140, Tryz.ntmps140
    go_wp2
    all_goals go_ret
    all_goals exact ⟨rfl, Below.refl _ _⟩
  have k1 : ¬ (most : Int) < (n : Int) := by omega
  have he : allB most B l = l.all B := by
    unfold allB; rw [hn, decide_eq_true (show n ≤ most by omega)]
    have : (n != 0) = true := by simp [h0]
    rw [this]; rfl
  rw [he]
  rcases hv with ⟨rfl, rfl⟩ | ⟨g, o, cap, css, rfl, h2, h3, h4, h5, h6⟩
  · exact absurd hn.symm h0
  rw [hn]
  have HAT := Lib.hid (And.intro h4 (And.intro h5 h6))
  have HN := Lib.hid hn
  have HR := Lib.hid hR
  have hcap : n ≤ cap := by omega
  clear he h4 h5 h6 hn hR h2
  go_enter Tryz.func140, Tryz.ntmps140
  go_wp2_with fail
  go_loopw [20] (fun iv wr => ∃ (i : Nat) (d rm : List (ItemM)), iv = .int .i64 (i : Int) ∧ Hid (l = d ++ rm ∧ d.length = i) ∧ Hid (Below w.heap.size w wr) ∧ Hid (l.all B = rm.all B)) (fun iv _ => n - (RowKit.intOf iv).toNat)
  case atStart => exact ⟨0, [], l, rfl, Lib.hid ⟨rfl, rfl⟩, Lib.hid (Below.refl _ _), Lib.hid rfl⟩
  case round =>
    obtain ⟨i, d, rm, rfl, HD, HB, HA⟩ := hrel
    cases rm with
    | nil =>
      have hge : ¬ i < n := by have h := HD.out; have h2 := HN.out; rw [h.1] at h2; simp at h2; omega
      go_wp2_with fail
      go_ret
      exact ⟨by rw [HA.out]; rfl, HB.out⟩
    | cons x rm =>
      have hlt : i < n := by have h := HD.out; have h2 := HN.out; rw [h.1] at h2; simp at h2; omega
      obtain ⟨cs, hx, hrg⟩ := row_atO HAT.out.2.1 HAT.out.2.2 HD.out.1
      rw [HD.out.2] at hrg
      have HRX := Lib.hid (HR.out x (by rw [HD.out.1]; simp))
      have hcl := itemE.len hx
      have HX := Lib.hid hx
      have HD2 : Hid (l = (d ++ [x]) ++ rm ∧ (d ++ [x]).length = i + 1) := Lib.hid ⟨by rw [HD.out.1]; simp, by rw [List.length_append, HD.out.2]; rfl⟩
      have HRG := Lib.hid (World.rangeAt.below (n := 0) hrg HAT.out.1 HB.out)
      have HI : Hid ((Tryz.prog.info? 49).map (·.size) = some cs.length) := Lib.hid (by show _ = _; rw [hcl]; kernel_rfl)
      have HI2 : Hid ((Tryz.prog.info? 49).map (·.size) = some cs.toArray.size) := Lib.hid (by show _ = _; rw [List.size_toArray, hcl]; kernel_rfl)
      have HZ : Hid (11 = cs.toArray.size) := Lib.hid (by show _ = _; rw [List.size_toArray, hcl]; rfl)
      have HO := Lib.hid (all_one HX.out)
      have hC := fun W (hb : Below w.heap.size w W) => hf W cs x (itemE.kept HX.out hb.size (fun k _ hk => hb.block k hk)) HRX.out
      clear hrg hcl hx
      cases hb : B x with
      | false =>
        have HF : Hid (l.all B = false) := Lib.hid (by show _ = _; rw [HA.out, List.all_cons, hb]; rfl)
        rw [hb] at hC
        clear hb
        go_wp2_with (first
          | (refine wpList_load_mid rfl 49 _ rfl g (o + i * 11) rfl cs _ HRG.out Tryz.underlying49 rfl HI.out ?_)
          | (refine wpList_store_row rfl 49 _ _ rfl wr.heap.size cs.toArray rfl rfl _ _ (heap_alloc_new _ _) HI2.out HZ.out HO.out ?_)
          | (refine wpList_load_row rfl 49 _ rfl wr.heap.size rfl _ cs.toArray (0, 0) _ (setRow_heap _ _ _ _ _ _ (heap_alloc_new _ _)) Tryz.underlying49 rfl HI2.out ?_))
        refine (hC _ (Below.laid HB.out HB.out.size _ _)).mono ?_
        rintro e w5 ⟨rfl, hb5⟩
        have HB5 := Lib.hid ((Below.laid HB.out HB.out.size _ _).trans (hb5.mono (Below.laid HB.out HB.out.size _ _).size))
        clear hb5
        go_wp2_with fail
        go_ret
        exact ⟨by rw [HF.out]; rfl, HB5.out⟩
      | true =>
        have HF : Hid (l.all B = rm.all B) := Lib.hid (by show _ = _; rw [HA.out, List.all_cons, hb]; rfl)
        rw [hb] at hC
        clear hb
        go_wp2_with (first
          | (refine wpList_load_mid rfl 49 _ rfl g (o + i * 11) rfl cs _ HRG.out Tryz.underlying49 rfl HI.out ?_)
          | (refine wpList_store_row rfl 49 _ _ rfl wr.heap.size cs.toArray rfl rfl _ _ (heap_alloc_new _ _) HI2.out HZ.out HO.out ?_)
          | (refine wpList_load_row rfl 49 _ rfl wr.heap.size rfl _ cs.toArray (0, 0) _ (setRow_heap _ _ _ _ _ _ (heap_alloc_new _ _)) Tryz.underlying49 rfl HI2.out ?_))
        refine (hC _ (Below.laid HB.out HB.out.size _ _)).mono ?_
        rintro e w5 ⟨rfl, hb5⟩
        have HB5 := Lib.hid ((Below.laid HB.out HB.out.size _ _).trans (hb5.mono (Below.laid HB.out HB.out.size _ _).size))
        clear hb5
        go_wp2_with fail
        go_roundw
        case rel => exact ⟨i + 1, d ++ [x], rm, rfl, HD2, HB5, HF⟩
        case measure => simp only [RowKit.intOf]; omega
set_option maxRecDepth 100000 in
set_option maxHeartbeats 4000000 in
theorem allFrom_may (fn most : Nat) (hm : most ≤ 1000) (hcf : ∀ (args : Array Value) (w : World), (callFunc fn args).run Tryz.prog w = .ok (.enter fn args) w) (B : FromM → Bool) (R : FromM → Prop)
    (hf : ∀ (W : World) (cs : List Value) (x : FromM), fromE.is (fun _ => True) W cs x → R x → Calls Tryz.prog fn #[.agg cs.toArray] W fun e w' => e = .returned (.bool (B x)) ∧ Below W.heap.size W w')
    (v : Value) (l : List (FromM)) (w : World) (hv : RowAt fromE (fun _ => True) w v l) (hR : ∀ x ∈ l, R x) :
    Calls Tryz.prog 142 #[v, .int .i64 (most : Int), .func (.func fn) #[] #[]] w fun e w' => e = .returned (.bool (allB most B l)) ∧ Below w.heap.size w w' := by
  obtain ⟨n, hn⟩ : ∃ n, l.length = n := ⟨_, rfl⟩
  by_cases h0 : n = 0
  · obtain ⟨ao, cap, rfl, _⟩ := hv.slice
    have k0 : ((n : Int) == 0) = true := by rw [h0]; rfl
    have he : allB most B l = false := by unfold allB; rw [hn, h0]; rfl
    rw [hn, he]
    clear he hv hR hn hf h0
    go_enter Tryz.func142, Tryz.ntmps142
    go_wp2
    all_goals go_ret
    all_goals exact ⟨rfl, Below.refl _ _⟩
  have k0 : ((n : Int) == 0) = false := by rw [beq_eq_false_iff_ne]; omega
  by_cases h1 : most < n
  · obtain ⟨ao, cap, rfl, _⟩ := hv.slice
    have k1 : (most : Int) < (n : Int) := by omega
    have he : allB most B l = false := by
      have : ¬ n ≤ most := by omega
      unfold allB; rw [hn, decide_eq_false this]; simp
    rw [hn, he]
    clear he hv hR hn hf h0 h1
    go_enter Tryz.func142, Tryz.ntmps142
    go_wp2
    all_goals go_ret
    all_goals exact ⟨rfl, Below.refl _ _⟩
  have k1 : ¬ (most : Int) < (n : Int) := by omega
  have he : allB most B l = l.all B := by
    unfold allB; rw [hn, decide_eq_true (show n ≤ most by omega)]
    have : (n != 0) = true := by simp [h0]
    rw [this]; rfl
  rw [he]
  rcases hv with ⟨rfl, rfl⟩ | ⟨g, o, cap, css, rfl, h2, h3, h4, h5, h6⟩
  · exact absurd hn.symm h0
  rw [hn]
  have HAT := Lib.hid (And.intro h4 (And.intro h5 h6))
  have HN := Lib.hid hn
  have HR := Lib.hid hR
  have hcap : n ≤ cap := by omega
  clear he h4 h5 h6 hn hR h2
  go_enter Tryz.func142, Tryz.ntmps142
  go_wp2_with fail
  go_loopw [20] (fun iv wr => ∃ (i : Nat) (d rm : List (FromM)), iv = .int .i64 (i : Int) ∧ Hid (l = d ++ rm ∧ d.length = i) ∧ Hid (Below w.heap.size w wr) ∧ Hid (l.all B = rm.all B)) (fun iv _ => n - (RowKit.intOf iv).toNat)
  case atStart => exact ⟨0, [], l, rfl, Lib.hid ⟨rfl, rfl⟩, Lib.hid (Below.refl _ _), Lib.hid rfl⟩
  case round =>
    obtain ⟨i, d, rm, rfl, HD, HB, HA⟩ := hrel
    cases rm with
    | nil =>
      have hge : ¬ i < n := by have h := HD.out; have h2 := HN.out; rw [h.1] at h2; simp at h2; omega
      go_wp2_with fail
      go_ret
      exact ⟨by rw [HA.out]; rfl, HB.out⟩
    | cons x rm =>
      have hlt : i < n := by have h := HD.out; have h2 := HN.out; rw [h.1] at h2; simp at h2; omega
      obtain ⟨cs, hx, hrg⟩ := row_atO HAT.out.2.1 HAT.out.2.2 HD.out.1
      rw [HD.out.2] at hrg
      have HRX := Lib.hid (HR.out x (by rw [HD.out.1]; simp))
      have hcl := fromE.len hx
      have HX := Lib.hid hx
      have HD2 : Hid (l = (d ++ [x]) ++ rm ∧ (d ++ [x]).length = i + 1) := Lib.hid ⟨by rw [HD.out.1]; simp, by rw [List.length_append, HD.out.2]; rfl⟩
      have HRG := Lib.hid (World.rangeAt.below (n := 0) hrg HAT.out.1 HB.out)
      have HI : Hid ((Tryz.prog.info? 138).map (·.size) = some cs.length) := Lib.hid (by show _ = _; rw [hcl]; kernel_rfl)
      have HI2 : Hid ((Tryz.prog.info? 138).map (·.size) = some cs.toArray.size) := Lib.hid (by show _ = _; rw [List.size_toArray, hcl]; kernel_rfl)
      have HZ : Hid (11 = cs.toArray.size) := Lib.hid (by show _ = _; rw [List.size_toArray, hcl]; rfl)
      have HO := Lib.hid (all_one HX.out)
      have hC := fun W (hb : Below w.heap.size w W) => hf W cs x (fromE.kept HX.out hb.size (fun k _ hk => hb.block k hk)) HRX.out
      clear hrg hcl hx
      cases hb : B x with
      | false =>
        have HF : Hid (l.all B = false) := Lib.hid (by show _ = _; rw [HA.out, List.all_cons, hb]; rfl)
        rw [hb] at hC
        clear hb
        go_wp2_with (first
          | (refine wpList_load_mid rfl 138 _ rfl g (o + i * 11) rfl cs _ HRG.out Tryz.underlying138 rfl HI.out ?_)
          | (refine wpList_store_row rfl 138 _ _ rfl wr.heap.size cs.toArray rfl rfl _ _ (heap_alloc_new _ _) HI2.out HZ.out HO.out ?_)
          | (refine wpList_load_row rfl 138 _ rfl wr.heap.size rfl _ cs.toArray (0, 0) _ (setRow_heap _ _ _ _ _ _ (heap_alloc_new _ _)) Tryz.underlying138 rfl HI2.out ?_))
        refine (hC _ (Below.laid HB.out HB.out.size _ _)).mono ?_
        rintro e w5 ⟨rfl, hb5⟩
        have HB5 := Lib.hid ((Below.laid HB.out HB.out.size _ _).trans (hb5.mono (Below.laid HB.out HB.out.size _ _).size))
        clear hb5
        go_wp2_with fail
        go_ret
        exact ⟨by rw [HF.out]; rfl, HB5.out⟩
      | true =>
        have HF : Hid (l.all B = rm.all B) := Lib.hid (by show _ = _; rw [HA.out, List.all_cons, hb]; rfl)
        rw [hb] at hC
        clear hb
        go_wp2_with (first
          | (refine wpList_load_mid rfl 138 _ rfl g (o + i * 11) rfl cs _ HRG.out Tryz.underlying138 rfl HI.out ?_)
          | (refine wpList_store_row rfl 138 _ _ rfl wr.heap.size cs.toArray rfl rfl _ _ (heap_alloc_new _ _) HI2.out HZ.out HO.out ?_)
          | (refine wpList_load_row rfl 138 _ rfl wr.heap.size rfl _ cs.toArray (0, 0) _ (setRow_heap _ _ _ _ _ _ (heap_alloc_new _ _)) Tryz.underlying138 rfl HI2.out ?_))
        refine (hC _ (Below.laid HB.out HB.out.size _ _)).mono ?_
        rintro e w5 ⟨rfl, hb5⟩
        have HB5 := Lib.hid ((Below.laid HB.out HB.out.size _ _).trans (hb5.mono (Below.laid HB.out HB.out.size _ _).size))
        clear hb5
        go_wp2_with fail
        go_roundw
        case rel => exact ⟨i + 1, d ++ [x], rm, rfl, HD2, HB5, HF⟩
        case measure => simp only [RowKit.intOf]; omega
set_option maxRecDepth 100000 in
set_option maxHeartbeats 4000000 in
theorem allOrder_may (fn most : Nat) (hm : most ≤ 1000) (hcf : ∀ (args : Array Value) (w : World), (callFunc fn args).run Tryz.prog w = .ok (.enter fn args) w) (B : OrderM → Bool) (R : OrderM → Prop)
    (hf : ∀ (W : World) (cs : List Value) (x : OrderM), orderE.is (fun _ => True) W cs x → R x → Calls Tryz.prog fn #[.agg cs.toArray] W fun e w' => e = .returned (.bool (B x)) ∧ Below W.heap.size W w')
    (v : Value) (l : List (OrderM)) (w : World) (hv : RowAt orderE (fun _ => True) w v l) (hR : ∀ x ∈ l, R x) :
    Calls Tryz.prog 145 #[v, .int .i64 (most : Int), .func (.func fn) #[] #[]] w fun e w' => e = .returned (.bool (allB most B l)) ∧ Below w.heap.size w w' := by
  obtain ⟨n, hn⟩ : ∃ n, l.length = n := ⟨_, rfl⟩
  by_cases h0 : n = 0
  · obtain ⟨ao, cap, rfl, _⟩ := hv.slice
    have k0 : ((n : Int) == 0) = true := by rw [h0]; rfl
    have he : allB most B l = false := by unfold allB; rw [hn, h0]; rfl
    rw [hn, he]
    clear he hv hR hn hf h0
    go_enter Tryz.func145, Tryz.ntmps145
    go_wp2
    all_goals go_ret
    all_goals exact ⟨rfl, Below.refl _ _⟩
  have k0 : ((n : Int) == 0) = false := by rw [beq_eq_false_iff_ne]; omega
  by_cases h1 : most < n
  · obtain ⟨ao, cap, rfl, _⟩ := hv.slice
    have k1 : (most : Int) < (n : Int) := by omega
    have he : allB most B l = false := by
      have : ¬ n ≤ most := by omega
      unfold allB; rw [hn, decide_eq_false this]; simp
    rw [hn, he]
    clear he hv hR hn hf h0 h1
    go_enter Tryz.func145, Tryz.ntmps145
    go_wp2
    all_goals go_ret
    all_goals exact ⟨rfl, Below.refl _ _⟩
  have k1 : ¬ (most : Int) < (n : Int) := by omega
  have he : allB most B l = l.all B := by
    unfold allB; rw [hn, decide_eq_true (show n ≤ most by omega)]
    have : (n != 0) = true := by simp [h0]
    rw [this]; rfl
  rw [he]
  rcases hv with ⟨rfl, rfl⟩ | ⟨g, o, cap, css, rfl, h2, h3, h4, h5, h6⟩
  · exact absurd hn.symm h0
  rw [hn]
  have HAT := Lib.hid (And.intro h4 (And.intro h5 h6))
  have HN := Lib.hid hn
  have HR := Lib.hid hR
  have hcap : n ≤ cap := by omega
  clear he h4 h5 h6 hn hR h2
  go_enter Tryz.func145, Tryz.ntmps145
  go_wp2_with fail
  go_loopw [20] (fun iv wr => ∃ (i : Nat) (d rm : List (OrderM)), iv = .int .i64 (i : Int) ∧ Hid (l = d ++ rm ∧ d.length = i) ∧ Hid (Below w.heap.size w wr) ∧ Hid (l.all B = rm.all B)) (fun iv _ => n - (RowKit.intOf iv).toNat)
  case atStart => exact ⟨0, [], l, rfl, Lib.hid ⟨rfl, rfl⟩, Lib.hid (Below.refl _ _), Lib.hid rfl⟩
  case round =>
    obtain ⟨i, d, rm, rfl, HD, HB, HA⟩ := hrel
    cases rm with
    | nil =>
      have hge : ¬ i < n := by have h := HD.out; have h2 := HN.out; rw [h.1] at h2; simp at h2; omega
      go_wp2_with fail
      go_ret
      exact ⟨by rw [HA.out]; rfl, HB.out⟩
    | cons x rm =>
      have hlt : i < n := by have h := HD.out; have h2 := HN.out; rw [h.1] at h2; simp at h2; omega
      obtain ⟨cs, hx, hrg⟩ := row_atO HAT.out.2.1 HAT.out.2.2 HD.out.1
      rw [HD.out.2] at hrg
      have HRX := Lib.hid (HR.out x (by rw [HD.out.1]; simp))
      have hcl := orderE.len hx
      have HX := Lib.hid hx
      have HD2 : Hid (l = (d ++ [x]) ++ rm ∧ (d ++ [x]).length = i + 1) := Lib.hid ⟨by rw [HD.out.1]; simp, by rw [List.length_append, HD.out.2]; rfl⟩
      have HRG := Lib.hid (World.rangeAt.below (n := 0) hrg HAT.out.1 HB.out)
      have HI : Hid ((Tryz.prog.info? 51).map (·.size) = some cs.length) := Lib.hid (by show _ = _; rw [hcl]; kernel_rfl)
      have HI2 : Hid ((Tryz.prog.info? 51).map (·.size) = some cs.toArray.size) := Lib.hid (by show _ = _; rw [List.size_toArray, hcl]; kernel_rfl)
      have HZ : Hid (10 = cs.toArray.size) := Lib.hid (by show _ = _; rw [List.size_toArray, hcl]; rfl)
      have HO := Lib.hid (all_one HX.out)
      have hC := fun W (hb : Below w.heap.size w W) => hf W cs x (orderE.kept HX.out hb.size (fun k _ hk => hb.block k hk)) HRX.out
      clear hrg hcl hx
      cases hb : B x with
      | false =>
        have HF : Hid (l.all B = false) := Lib.hid (by show _ = _; rw [HA.out, List.all_cons, hb]; rfl)
        rw [hb] at hC
        clear hb
        go_wp2_with (first
          | (refine wpList_load_mid rfl 51 _ rfl g (o + i * 10) rfl cs _ HRG.out Tryz.underlying51 rfl HI.out ?_)
          | (refine wpList_store_row rfl 51 _ _ rfl wr.heap.size cs.toArray rfl rfl _ _ (heap_alloc_new _ _) HI2.out HZ.out HO.out ?_)
          | (refine wpList_load_row rfl 51 _ rfl wr.heap.size rfl _ cs.toArray (0, 0) _ (setRow_heap _ _ _ _ _ _ (heap_alloc_new _ _)) Tryz.underlying51 rfl HI2.out ?_))
        refine (hC _ (Below.laid HB.out HB.out.size _ _)).mono ?_
        rintro e w5 ⟨rfl, hb5⟩
        have HB5 := Lib.hid ((Below.laid HB.out HB.out.size _ _).trans (hb5.mono (Below.laid HB.out HB.out.size _ _).size))
        clear hb5
        go_wp2_with fail
        go_ret
        exact ⟨by rw [HF.out]; rfl, HB5.out⟩
      | true =>
        have HF : Hid (l.all B = rm.all B) := Lib.hid (by show _ = _; rw [HA.out, List.all_cons, hb]; rfl)
        rw [hb] at hC
        clear hb
        go_wp2_with (first
          | (refine wpList_load_mid rfl 51 _ rfl g (o + i * 10) rfl cs _ HRG.out Tryz.underlying51 rfl HI.out ?_)
          | (refine wpList_store_row rfl 51 _ _ rfl wr.heap.size cs.toArray rfl rfl _ _ (heap_alloc_new _ _) HI2.out HZ.out HO.out ?_)
          | (refine wpList_load_row rfl 51 _ rfl wr.heap.size rfl _ cs.toArray (0, 0) _ (setRow_heap _ _ _ _ _ _ (heap_alloc_new _ _)) Tryz.underlying51 rfl HI2.out ?_))
        refine (hC _ (Below.laid HB.out HB.out.size _ _)).mono ?_
        rintro e w5 ⟨rfl, hb5⟩
        have HB5 := Lib.hid ((Below.laid HB.out HB.out.size _ _).trans (hb5.mono (Below.laid HB.out HB.out.size _ _).size))
        clear hb5
        go_wp2_with fail
        go_roundw
        case rel => exact ⟨i + 1, d ++ [x], rm, rfl, HD2, HB5, HF⟩
        case measure => simp only [RowKit.intOf]; omega
set_option maxRecDepth 100000 in
set_option maxHeartbeats 4000000 in
theorem allCol_may (fn most : Nat) (hm : most ≤ 1000) (hcf : ∀ (args : Array Value) (w : World), (callFunc fn args).run Tryz.prog w = .ok (.enter fn args) w) (B : ColM → Bool) (R : ColM → Prop)
    (hf : ∀ (W : World) (cs : List Value) (x : ColM), colE'.is (fun _ => True) W cs x → R x → Calls Tryz.prog fn #[.agg cs.toArray] W fun e w' => e = .returned (.bool (B x)) ∧ Below W.heap.size W w')
    (v : Value) (l : List (ColM)) (w : World) (hv : RowAt colE' (fun _ => True) w v l) (hR : ∀ x ∈ l, R x) :
    Calls Tryz.prog 63 #[v, .int .i64 (most : Int), .func (.func fn) #[] #[]] w fun e w' => e = .returned (.bool (allB most B l)) ∧ Below w.heap.size w w' := by
  obtain ⟨n, hn⟩ : ∃ n, l.length = n := ⟨_, rfl⟩
  by_cases h0 : n = 0
  · obtain ⟨ao, cap, rfl, _⟩ := hv.slice
    have k0 : ((n : Int) == 0) = true := by rw [h0]; rfl
    have he : allB most B l = false := by unfold allB; rw [hn, h0]; rfl
    rw [hn, he]
    clear he hv hR hn hf h0
    go_enter Tryz.func63, Tryz.ntmps63
    go_wp2
    all_goals go_ret
    all_goals exact ⟨rfl, Below.refl _ _⟩
  have k0 : ((n : Int) == 0) = false := by rw [beq_eq_false_iff_ne]; omega
  by_cases h1 : most < n
  · obtain ⟨ao, cap, rfl, _⟩ := hv.slice
    have k1 : (most : Int) < (n : Int) := by omega
    have he : allB most B l = false := by
      have : ¬ n ≤ most := by omega
      unfold allB; rw [hn, decide_eq_false this]; simp
    rw [hn, he]
    clear he hv hR hn hf h0 h1
    go_enter Tryz.func63, Tryz.ntmps63
    go_wp2
    all_goals go_ret
    all_goals exact ⟨rfl, Below.refl _ _⟩
  have k1 : ¬ (most : Int) < (n : Int) := by omega
  have he : allB most B l = l.all B := by
    unfold allB; rw [hn, decide_eq_true (show n ≤ most by omega)]
    have : (n != 0) = true := by simp [h0]
    rw [this]; rfl
  rw [he]
  rcases hv with ⟨rfl, rfl⟩ | ⟨g, o, cap, css, rfl, h2, h3, h4, h5, h6⟩
  · exact absurd hn.symm h0
  rw [hn]
  have HAT := Lib.hid (And.intro h4 (And.intro h5 h6))
  have HN := Lib.hid hn
  have HR := Lib.hid hR
  have hcap : n ≤ cap := by omega
  clear he h4 h5 h6 hn hR h2
  go_enter Tryz.func63, Tryz.ntmps63
  go_wp2_with fail
  go_loopw [20] (fun iv wr => ∃ (i : Nat) (d rm : List (ColM)), iv = .int .i64 (i : Int) ∧ Hid (l = d ++ rm ∧ d.length = i) ∧ Hid (Below w.heap.size w wr) ∧ Hid (l.all B = rm.all B)) (fun iv _ => n - (RowKit.intOf iv).toNat)
  case atStart => exact ⟨0, [], l, rfl, Lib.hid ⟨rfl, rfl⟩, Lib.hid (Below.refl _ _), Lib.hid rfl⟩
  case round =>
    obtain ⟨i, d, rm, rfl, HD, HB, HA⟩ := hrel
    cases rm with
    | nil =>
      have hge : ¬ i < n := by have h := HD.out; have h2 := HN.out; rw [h.1] at h2; simp at h2; omega
      go_wp2_with fail
      go_ret
      exact ⟨by rw [HA.out]; rfl, HB.out⟩
    | cons x rm =>
      have hlt : i < n := by have h := HD.out; have h2 := HN.out; rw [h.1] at h2; simp at h2; omega
      obtain ⟨cs, hx, hrg⟩ := row_atO HAT.out.2.1 HAT.out.2.2 HD.out.1
      rw [HD.out.2] at hrg
      have HRX := Lib.hid (HR.out x (by rw [HD.out.1]; simp))
      have hcl := colE'.len hx
      have HX := Lib.hid hx
      have HD2 : Hid (l = (d ++ [x]) ++ rm ∧ (d ++ [x]).length = i + 1) := Lib.hid ⟨by rw [HD.out.1]; simp, by rw [List.length_append, HD.out.2]; rfl⟩
      have HRG := Lib.hid (World.rangeAt.below (n := 0) hrg HAT.out.1 HB.out)
      have HI : Hid ((Tryz.prog.info? 112).map (·.size) = some cs.length) := Lib.hid (by show _ = _; rw [hcl]; kernel_rfl)
      have HI2 : Hid ((Tryz.prog.info? 112).map (·.size) = some cs.toArray.size) := Lib.hid (by show _ = _; rw [List.size_toArray, hcl]; kernel_rfl)
      have HZ : Hid (5 = cs.toArray.size) := Lib.hid (by show _ = _; rw [List.size_toArray, hcl]; rfl)
      have HO := Lib.hid (all_one HX.out)
      have hC := fun W (hb : Below w.heap.size w W) => hf W cs x (colE'.kept HX.out hb.size (fun k _ hk => hb.block k hk)) HRX.out
      clear hrg hcl hx
      cases hb : B x with
      | false =>
        have HF : Hid (l.all B = false) := Lib.hid (by show _ = _; rw [HA.out, List.all_cons, hb]; rfl)
        rw [hb] at hC
        clear hb
        go_wp2_with (first
          | (refine wpList_load_mid rfl 112 _ rfl g (o + i * 5) rfl cs _ HRG.out Tryz.underlying112 rfl HI.out ?_)
          | (refine wpList_store_row rfl 112 _ _ rfl wr.heap.size cs.toArray rfl rfl _ _ (heap_alloc_new _ _) HI2.out HZ.out HO.out ?_)
          | (refine wpList_load_row rfl 112 _ rfl wr.heap.size rfl _ cs.toArray (0, 0) _ (setRow_heap _ _ _ _ _ _ (heap_alloc_new _ _)) Tryz.underlying112 rfl HI2.out ?_))
        refine (hC _ (Below.laid HB.out HB.out.size _ _)).mono ?_
        rintro e w5 ⟨rfl, hb5⟩
        have HB5 := Lib.hid ((Below.laid HB.out HB.out.size _ _).trans (hb5.mono (Below.laid HB.out HB.out.size _ _).size))
        clear hb5
        go_wp2_with fail
        go_ret
        exact ⟨by rw [HF.out]; rfl, HB5.out⟩
      | true =>
        have HF : Hid (l.all B = rm.all B) := Lib.hid (by show _ = _; rw [HA.out, List.all_cons, hb]; rfl)
        rw [hb] at hC
        clear hb
        go_wp2_with (first
          | (refine wpList_load_mid rfl 112 _ rfl g (o + i * 5) rfl cs _ HRG.out Tryz.underlying112 rfl HI.out ?_)
          | (refine wpList_store_row rfl 112 _ _ rfl wr.heap.size cs.toArray rfl rfl _ _ (heap_alloc_new _ _) HI2.out HZ.out HO.out ?_)
          | (refine wpList_load_row rfl 112 _ rfl wr.heap.size rfl _ cs.toArray (0, 0) _ (setRow_heap _ _ _ _ _ _ (heap_alloc_new _ _)) Tryz.underlying112 rfl HI2.out ?_))
        refine (hC _ (Below.laid HB.out HB.out.size _ _)).mono ?_
        rintro e w5 ⟨rfl, hb5⟩
        have HB5 := Lib.hid ((Below.laid HB.out HB.out.size _ _).trans (hb5.mono (Below.laid HB.out HB.out.size _ _).size))
        clear hb5
        go_wp2_with fail
        go_roundw
        case rel => exact ⟨i + 1, d ++ [x], rm, rfl, HD2, HB5, HF⟩
        case measure => simp only [RowKit.intOf]; omega
set_option maxRecDepth 100000 in
set_option maxHeartbeats 4000000 in
theorem anyStr_may (fn : Nat) (hcf : ∀ (args : Array Value) (w : World), (callFunc fn args).run Tryz.prog w = .ok (.enter fn args) w) (B : List UInt8 → Bool) (R : List UInt8 → Prop)
    (hf : ∀ (W : World) (cs : List Value) (x : List UInt8), strE.is (fun _ => True) W cs x → R x → Calls Tryz.prog fn #[cs.headD undef] W fun e w' => e = .returned (.bool (B x)) ∧ Below W.heap.size W w')
    (v : Value) (l : List (List UInt8)) (w : World) (hv : RowAt strE (fun _ => True) w v l) (hR : ∀ x ∈ l, R x) :
    Calls Tryz.prog 66 #[v, .func (.func fn) #[] #[]] w fun e w' => e = .returned (.bool (anyB B l)) ∧ Below w.heap.size w w' := by
  have hC := allStr_may fn 64 (by decide) hcf B R hf v l w hv hR
  obtain ⟨ao, cap, rfl, _⟩ := hv.slice
  obtain ⟨n, hn⟩ : ∃ n, l.length = n := ⟨_, rfl⟩
  rw [hn] at hC ⊢
  by_cases h0 : n = 0
  · have k0 : ((n : Int) == 0) = true := by rw [h0]; rfl
    have he : anyB B l = true := by unfold anyB; rw [hn, h0]; rfl
    rw [he]
    clear he hv hR hn hf h0 hC
    go_enter Tryz.func66, Tryz.ntmps66
    go_wp2
    all_goals go_ret
    all_goals exact ⟨rfl, Below.refl _ _⟩
  · have k0 : ((n : Int) == 0) = false := by rw [beq_eq_false_iff_ne]; omega
    have he : anyB B l = allB 64 B l := by unfold anyB; rw [hn]; simp [h0]
    rw [he]
    clear he hv hR hn hf h0
    go_enter Tryz.func66, Tryz.ntmps66
    go_wp2_with (go_at_call 65; refine hC.mono ?_; rintro e w1 ⟨rfl, hb⟩)
    all_goals go_ret
    all_goals exact ⟨rfl, hb⟩
set_option maxRecDepth 100000 in
set_option maxHeartbeats 4000000 in
theorem anyEx_may (fn : Nat) (hcf : ∀ (args : Array Value) (w : World), (callFunc fn args).run Tryz.prog w = .ok (.enter fn args) w) (B : Ex → Bool) (R : Ex → Prop)
    (hf : ∀ (W : World) (cs : List Value) (x : Ex), exE.is (fun _ => True) W cs x → R x → Calls Tryz.prog fn #[.agg cs.toArray] W fun e w' => e = .returned (.bool (B x)) ∧ Below W.heap.size W w')
    (v : Value) (l : List (Ex)) (w : World) (hv : RowAt exE (fun _ => True) w v l) (hR : ∀ x ∈ l, R x) :
    Calls Tryz.prog 112 #[v, .func (.func fn) #[] #[]] w fun e w' => e = .returned (.bool (anyB B l)) ∧ Below w.heap.size w w' := by
  have hC := allEx_may fn 64 (by decide) hcf B R hf v l w hv hR
  obtain ⟨ao, cap, rfl, _⟩ := hv.slice
  obtain ⟨n, hn⟩ : ∃ n, l.length = n := ⟨_, rfl⟩
  rw [hn] at hC ⊢
  by_cases h0 : n = 0
  · have k0 : ((n : Int) == 0) = true := by rw [h0]; rfl
    have he : anyB B l = true := by unfold anyB; rw [hn, h0]; rfl
    rw [he]
    clear he hv hR hn hf h0 hC
    go_enter Tryz.func112, Tryz.ntmps112
    go_wp2
    all_goals go_ret
    all_goals exact ⟨rfl, Below.refl _ _⟩
  · have k0 : ((n : Int) == 0) = false := by rw [beq_eq_false_iff_ne]; omega
    have he : anyB B l = allB 64 B l := by unfold anyB; rw [hn]; simp [h0]
    rw [he]
    clear he hv hR hn hf h0
    go_enter Tryz.func112, Tryz.ntmps112
    go_wp2_with (go_at_call 116; refine hC.mono ?_; rintro e w1 ⟨rfl, hb⟩)
    all_goals go_ret
    all_goals exact ⟨rfl, hb⟩
set_option maxRecDepth 100000 in
set_option maxHeartbeats 4000000 in
theorem anyOrder_may (fn : Nat) (hcf : ∀ (args : Array Value) (w : World), (callFunc fn args).run Tryz.prog w = .ok (.enter fn args) w) (B : OrderM → Bool) (R : OrderM → Prop)
    (hf : ∀ (W : World) (cs : List Value) (x : OrderM), orderE.is (fun _ => True) W cs x → R x → Calls Tryz.prog fn #[.agg cs.toArray] W fun e w' => e = .returned (.bool (B x)) ∧ Below W.heap.size W w')
    (v : Value) (l : List (OrderM)) (w : World) (hv : RowAt orderE (fun _ => True) w v l) (hR : ∀ x ∈ l, R x) :
    Calls Tryz.prog 113 #[v, .func (.func fn) #[] #[]] w fun e w' => e = .returned (.bool (anyB B l)) ∧ Below w.heap.size w w' := by
  have hC := allOrder_may fn 64 (by decide) hcf B R hf v l w hv hR
  obtain ⟨ao, cap, rfl, _⟩ := hv.slice
  obtain ⟨n, hn⟩ : ∃ n, l.length = n := ⟨_, rfl⟩
  rw [hn] at hC ⊢
  by_cases h0 : n = 0
  · have k0 : ((n : Int) == 0) = true := by rw [h0]; rfl
    have he : anyB B l = true := by unfold anyB; rw [hn, h0]; rfl
    rw [he]
    clear he hv hR hn hf h0 hC
    go_enter Tryz.func113, Tryz.ntmps113
    go_wp2
    all_goals go_ret
    all_goals exact ⟨rfl, Below.refl _ _⟩
  · have k0 : ((n : Int) == 0) = false := by rw [beq_eq_false_iff_ne]; omega
    have he : anyB B l = allB 64 B l := by unfold anyB; rw [hn]; simp [h0]
    rw [he]
    clear he hv hR hn hf h0
    go_enter Tryz.func113, Tryz.ntmps113
    go_wp2_with (go_at_call 145; refine hC.mono ?_; rintro e w1 ⟨rfl, hb⟩)
    all_goals go_ret
    all_goals exact ⟨rfl, hb⟩
end
end Go.Proofs.YtenmnpbjnbdeaaaGreatDoor
