/-
  WHAT IS PROVED: a writer: bytes that grow part by part; a number, one with a sign, a text, bytes as they are, a value.
-/
import Derived.Deep.RegionLaw
import Derived.Deep.RegionHeld3
import Derived.Deep.RegionWith
import Derived.Test.YtjjfmmimmfihgabGreatDoorRowA
namespace Go.Proofs.YtjjfmmimmfihgabGreatDoor
open Go.RowKit Go.Lib
set_option linter.unusedVariables false

/-- append of bytes that read as a list, as one step of a region that draws -/
theorem step_append_row {w : World} {ops : Array Oper} {o : Oper} {a : Act} {K : Act → World → Prop} {Q : Exit → Act → World → Prop} {E : Prop} (hw : Region.wanted o (yielded ops a.tmps) = true) (s x : Operand)
    (ho : o.op = .call { callee := .builtin .append, args := #[s, x], argTypes := #[29, 29] })
    (base : Nat) (v : Value) (k : Nat) (xs : List Nat) (hs : a.eval s = v) (hown : w.ownsRow base 5 1 v k (cells8 xs))
    (ao : Option Addr) (n cap : Nat) (l : List Nat) (hx : a.eval x = .slice ao n cap) (hr : Row8 w ao n cap l) (hbytes : k + n ≤ 1099511627776) (hbase : base ≤ w.heap.size)
    (h : ∀ v' w', w'.ownsRow base 5 1 v' (k + n) (cells8 (xs ++ l)) → w.grownBy w' v.ownBlock → K (a.put o.dst v') w') :
    if Region.wanted o (yielded ops a.tmps) = true then Oper.wp Tryz.prog o a w K Q else E := by
  rw [if_pos hw]
  obtain ⟨i0, hi, hz0, hz1, hz2⟩ := info_parts Tryz.info8
  cases ao with
  | none =>
    have hc := hr.nil rfl
    have hrm := hr.room
    obtain rfl : n = 0 := by omega
    subst hc
    have hl := List.eq_nil_of_length_eq_zero hr.len
    subst hl
    have hrun := run_append_owned_none (P := Tryz.prog) (w := w) base 29 o.type 5 i0 1 Tryz.underlying29 hi v k (cells8 xs) hown
    unfold Oper.wp
    simp [execOp, ho, resolve, invoke, builtin, hs, hx, hrun, Result.andThen]
    exact h v w (by simpa using hown) (World.grownBy.refl _ _)
  | some ad =>
    have hl := hr.len
    refine wp_append_own w s x 29 ho base 5 i0 (.int .u8 0) 1 1 Tryz.underlying29 hi hz0 hz1 hz2 rfl (by decide) v k (cells8 xs) hs hown ad n cap (cells8 l) hx (by simp [cells8_length, hl]) ?_ (cells8_one _) (by unfold maxLen; omega) (by omega) hbase ?_
    · intro j u hu
      have hj : j < l.length := by have := (List.getElem?_eq_some_iff.1 hu).1; simpa [cells8] using this
      rw [cells8_getElem? _ _ hj] at hu
      rw [hr.cell ad rfl j (by omega)]; exact hu
    · intro v' w' h1 h2 _
      rw [cells8_append] at h1
      exact h v' w' h1 h2

theorem free_of_block {w : World} {b : Nat} {cs : Array Value} {t : TypeId} (h : w.heap[b]? = some (.cells cs t (0, 0))) (j : Nat) : w.frozen? ⟨b, j, none⟩ = false := by
  simp [World.frozen?, h]
theorem below_drewB {w w' : World} (h : Below w.drew.heap.size w.drew w') : Below w.heap.size w w' := ⟨h.os, h.tape, h.output, h.size, h.block⟩
theorem own_slice {w : World} {base e n : Nat} {v : Value} {xs : List Value} (h : w.ownsRow base e 1 v n xs) : ∃ ao m cap, v = .slice ao m cap := by
  rcases h.2 with ⟨h0, _⟩ | ⟨g, cap, cur, h0, _⟩
  · exact ⟨_, _, _, h0⟩
  · exact ⟨_, _, _, h0⟩
theorem own_under {w w' : World} {base e n : Nat} {v : Value} {xs : List Value} (h : w.ownsRow base e 1 v n xs) (hb : Below w.heap.size w w') : w'.ownsRow base e 1 v n xs :=
  h.kept (grown_of_below hb) (by cases h : v.ownBlock <;> simp)
theorem strN_byte (s : ByteArray) : ∀ x ∈ strN s, x < 256 := by
  intro x hx
  obtain ⟨y, _, rfl⟩ := List.mem_map.1 hx
  exact y.toNat_lt
structure Wr (base B : Nat) (l : List Nat) (v : Value) (w : World) : Prop where
  at_ : w.heap[B]? = some (.cells #[v] 70 (0, 0))
  own : w.ownsRow base 5 1 v l.length (cells8 l)
  ge : base ≤ B
  size : base ≤ w.heap.size
  byte : ∀ x ∈ l, x < 256
theorem Wr.kept {base B : Nat} {l : List Nat} {v : Value} {w w' : World} (h : Wr base B l v w) (hb : Below w.heap.size w w') : Wr base B l v w' :=
  ⟨(hb.block _ (lt_of_block h.at_)).trans h.at_, own_under h.own hb, h.ge, Nat.le_trans h.size hb.size, h.byte⟩
theorem Wr.lt {base B : Nat} {l : List Nat} {v : Value} {w : World} (h : Wr base B l v w) : B < w.heap.size := lt_of_block h.at_
theorem Wr.ne {base B : Nat} {l : List Nat} {v : Value} {w : World} (h : Wr base B l v w) : v.ownBlock ≠ some B := by
  intro e
  rcases h.own.2 with ⟨rfl, _⟩ | ⟨g, cap, cur, rfl, _, hh, _⟩
  · cases e
  · have e2 : g = B := by simpa [Value.ownBlock] using e
    subst e2
    rw [h.at_] at hh
    simp at hh
/-- not a block of bytes -/
def notBytes (o : Obj) : Prop := ∀ cs fr, o ≠ .cells cs 5 fr
/-- what a writer may turn: its own block, blocks of bytes from base on -/
structure Touch (base B : Nat) (w w' : World) : Prop where
  below : Below base w w'
  rest : ∀ k o, w.heap[k]? = some o → k ≠ B → notBytes o → w'.heap[k]? = some o
theorem Touch.refl (base B : Nat) (w : World) : Touch base B w w := ⟨Below.refl _ _, fun _ _ h _ _ => h⟩
theorem Touch.trans {base B : Nat} {w1 w2 w3 : World} (h : Touch base B w1 w2) (h' : Touch base B w2 w3) : Touch base B w1 w3 :=
  ⟨h.below.trans h'.below, fun k o hk hB hn => h'.rest k o (h.rest k o hk hB hn) hB hn⟩
theorem Touch.of {base B : Nat} {w w' : World} (h : Below w.heap.size w w') (hs : base ≤ w.heap.size) : Touch base B w w' :=
  ⟨h.mono hs, fun k o hk _ _ => (h.block k (lt_of_block hk)).trans hk⟩
theorem Touch.kept {base B : Nat} {w1 w2 w3 : World} (h : Touch base B w1 w2) (hb : Below w2.heap.size w2 w3) (hs : base ≤ w2.heap.size) : Touch base B w1 w3 := h.trans (Touch.of hb hs)
theorem Wr.own_not {base B : Nat} {l : List Nat} {v : Value} {w : World} (h : Wr base B l v w) {k : Nat} {o : Obj} (hk : w.heap[k]? = some o) (hn : notBytes o) : v.ownBlock ≠ some k := by
  intro e
  rcases h.own.2 with ⟨rfl, _⟩ | ⟨g, cap, cur, rfl, _, hh, _⟩
  · cases e
  · have e2 : g = k := by simpa [Value.ownBlock] using e
    subst e2
    rw [hk] at hh
    exact hn _ _ (Option.some.inj hh)
/-- what an append, and the store behind it, come to -/
theorem Wr.next {base B n : Nat} {l m : List Nat} {v v' : Value} {w w' : World} (h : Wr base B l v w) (hown : w'.ownsRow base 5 1 v' (l.length + n) (cells8 (l ++ m))) (hg : w.grownBy w' v.ownBlock) (hn : m.length = n) (hm : ∀ x ∈ m, x < 256) :
    Wr base B (l ++ m) v' (w'.setCell ⟨B, 0, none⟩ v') ∧ w'.heap[B]? = some (.cells #[v] 70 (0, 0)) ∧ ∀ w0, Touch base B w0 w → Touch base B w0 (w'.setCell ⟨B, 0, none⟩ v') := by
  have hB : w'.heap[B]? = some (.cells #[v] 70 (0, 0)) := (hg.block B h.lt (fun e => h.ne e.symm)).trans h.at_
  have hlen : (l ++ m).length = l.length + n := by simp [hn]
  refine ⟨⟨?_, ?_, h.ge, ?_, ?_⟩, hB, fun w0 hb => ⟨(hb.below.grown hg h.size (fun k hk => (h.own.lt k hk).1)).setCell h.ge _, fun k o hk hB' hn => by
    have h1 := hb.rest k o hk hB' hn
    exact (Below.heap_setCell w' ⟨B, 0, none⟩ v' k hB').trans ((hg.block k (lt_of_block h1) (fun e => h.own_not h1 hn e.symm)).trans h1)⟩⟩
  · simp only [World.setCell, Array.getElem?_modify, if_pos]
    rw [hB]
    rfl
  · rw [hlen]
    refine ⟨hown.1, ?_⟩
    rcases hown.2 with h0 | ⟨g, cap, cur, hv, hgb, hh, r⟩
    · exact .inl h0
    · have hne : g ≠ B := by
        intro e
        subst e
        rw [hB] at hh
        simp at hh
      exact .inr ⟨g, cap, cur, hv, hgb, (Below.heap_setCell w' ⟨B, 0, none⟩ v' g hne).trans hh, r⟩
  · exact Nat.le_trans (Nat.le_trans h.size hg.size) (by simp [World.setCell])
  · intro x hx
    rcases List.mem_append.1 hx with hx | hx
    · exact h.byte x hx
    · exact hm x hx
/-- a step of a writer: what stood below base stands as it did, and m is written behind l -/
def Writes (base B : Nat) (l m : List Nat) (w : World) (e : Ending) (w' : World) : Prop := e = .returned (.tuple #[]) ∧ Touch base B w w' ∧ ∃ v', Wr base B (l ++ m) v' w'
set_option maxRecDepth 100000 in
set_option maxHeartbeats 2000000 in
theorem putU_any (base B : Nat) (l : List Nat) (v : Value) (x : Nat) (hx : x < 18446744073709551616) (w : World) (h : Wr base B l v w) (hroom : l.length + (vb x).length ≤ 1099511627776) :
    Calls Tryz.prog 41 #[.pointer (some ⟨B, 0, none⟩), .func (.func 42) #[] #[], .int .u64 (x : Int)] w (Writes base B l (vb x) w) := by
  have H0 := Lib.hid h
  have HB0 := Lib.hid (Touch.refl base B w)
  have HM : Hid (∀ c ∈ (vb x), c < 256) := Lib.hid (vb_byte x)
  clear h
  go_enter Tryz.func41, Tryz.ntmps41
  have s0 : w.cell? ⟨B, 0, none⟩ = some v := cell_of_block H0.out.at_ 0
  have z0 := H0.out.lt
  go_wp2_with fail
  go_region_law ((first
    | (go_simp; go_at_call 42; refine (new8_at (List.nil_append _) (put_any none 0 0 [] x hx _ (row_nil _) (by omega))).mono ?_; rintro e w1 ⟨ao, n, cap, rfl, hrow, hnew, hb⟩; have hb := below_drewB hb; have H1 := Lib.hid (H0.out.kept hb); have HB1 := Lib.hid (HB0.out.kept hb H0.out.size); have HR1 := Lib.hid hrow; have s1 : w1.cell? ⟨B, 0, none⟩ = some v := cell_of_block H1.out.at_ 0; have hl := Lib.hid hrow.len; clear hb hrow hnew; dsimp only)
    | (guard_hyp H1; refine step_append_row ?_ (.tmp 10) (.tmp 13) ?_ base v l.length l ?_ H1.out.own ao n cap (vb x) ?_ HR1.out ?_ H1.out.size ?_; rfl; rfl; rfl; rfl; (have := hl.out; omega); intro v' w2 hown hg; obtain ⟨ao2, n2, c2, rfl⟩ := own_slice hown; have HW := Lib.hid (H1.out.next hown hg hl.out HM.out); have s2 : w2.cell? ⟨B, 0, none⟩ = some v := cell_of_block HW.out.2.1 0; have f2 : w2.frozen? ⟨B, 0, none⟩ = false := free_of_block HW.out.2.1 0; have z2 : B < w2.heap.size := lt_of_block HW.out.2.1; clear hown hg)))
  all_goals go_wp2
  all_goals exact bodyPost_ret (v := .tuple #[]) (by simp [results, go_sem]) rfl ⟨rfl, HW.out.2.2 _ HB1.out, _, HW.out.1⟩
set_option maxRecDepth 100000 in
set_option maxHeartbeats 2000000 in
theorem putI_any (base B : Nat) (l : List Nat) (v : Value) (x : Int) (hx : -9223372036854775808 ≤ x ∧ x ≤ 9223372036854775807) (w : World) (h : Wr base B l v w) (hroom : l.length + (vb (foldN x)).length ≤ 1099511627776) :
    Calls Tryz.prog 58 #[.pointer (some ⟨B, 0, none⟩), .func (.func 59) #[] #[], .int .i64 x] w (Writes base B l (vb (foldN x)) w) := by
  have H0 := Lib.hid h
  have HB0 := Lib.hid (Touch.refl base B w)
  have HM : Hid (∀ c ∈ (vb (foldN x)), c < 256) := Lib.hid (vb_byte _)
  clear h
  go_enter Tryz.func58, Tryz.ntmps58
  have s0 : w.cell? ⟨B, 0, none⟩ = some v := cell_of_block H0.out.at_ 0
  have z0 := H0.out.lt
  go_wp2_with fail
  go_region_law ((first
    | (go_simp; go_at_call 59; refine (new8_at (List.nil_append _) (putSigned_any none 0 0 [] x hx _ (row_nil _) (by omega))).mono ?_; rintro e w1 ⟨ao, n, cap, rfl, hrow, hnew, hb⟩; have hb := below_drewB hb; have H1 := Lib.hid (H0.out.kept hb); have HB1 := Lib.hid (HB0.out.kept hb H0.out.size); have HR1 := Lib.hid hrow; have s1 : w1.cell? ⟨B, 0, none⟩ = some v := cell_of_block H1.out.at_ 0; have hl := Lib.hid hrow.len; clear hb hrow hnew; dsimp only)
    | (guard_hyp H1; refine step_append_row ?_ (.tmp 10) (.tmp 13) ?_ base v l.length l ?_ H1.out.own ao n cap (vb (foldN x)) ?_ HR1.out ?_ H1.out.size ?_; rfl; rfl; rfl; rfl; (have := hl.out; omega); intro v' w2 hown hg; obtain ⟨ao2, n2, c2, rfl⟩ := own_slice hown; have HW := Lib.hid (H1.out.next hown hg hl.out HM.out); have s2 : w2.cell? ⟨B, 0, none⟩ = some v := cell_of_block HW.out.2.1 0; have f2 : w2.frozen? ⟨B, 0, none⟩ = false := free_of_block HW.out.2.1 0; have z2 : B < w2.heap.size := lt_of_block HW.out.2.1; clear hown hg)))
  all_goals go_wp2
  all_goals exact bodyPost_ret (v := .tuple #[]) (by simp [results, go_sem]) rfl ⟨rfl, HW.out.2.2 _ HB1.out, _, HW.out.1⟩
set_option maxRecDepth 100000 in
set_option maxHeartbeats 2000000 in
theorem putS_any (base B : Nat) (l : List Nat) (v : Value) (s : ByteArray) (hs : s.size ≤ 4294967296) (w : World) (h : Wr base B l v w) (hroom : l.length + (vb s.size ++ strN s).length ≤ 1099511627776) :
    Calls Tryz.prog 76 #[.pointer (some ⟨B, 0, none⟩), .func (.func 77) #[] #[], .string s] w (Writes base B l (vb s.size ++ strN s) w) := by
  have H0 := Lib.hid h
  have HB0 := Lib.hid (Touch.refl base B w)
  have HM : Hid (∀ c ∈ (vb s.size ++ strN s), c < 256) := Lib.hid (fun x hx => by rcases List.mem_append.1 hx with hx | hx; exact vb_byte _ x hx; exact strN_byte s x hx)
  clear h
  go_enter Tryz.func76, Tryz.ntmps76
  have s0 : w.cell? ⟨B, 0, none⟩ = some v := cell_of_block H0.out.at_ 0
  have z0 := H0.out.lt
  go_wp2_with fail
  go_region_law ((first
    | (go_simp; go_at_call 77; refine (new8_at (by rw [List.nil_append]) (putText_any none 0 0 [] s _ (row_nil _) (by omega) hs)).mono ?_; rintro e w1 ⟨ao, n, cap, rfl, hrow, hnew, hb⟩; have hb := below_drewB hb; have H1 := Lib.hid (H0.out.kept hb); have HB1 := Lib.hid (HB0.out.kept hb H0.out.size); have HR1 := Lib.hid hrow; have s1 : w1.cell? ⟨B, 0, none⟩ = some v := cell_of_block H1.out.at_ 0; have hl := Lib.hid hrow.len; clear hb hrow hnew; dsimp only)
    | (guard_hyp H1; refine step_append_row ?_ (.tmp 10) (.tmp 13) ?_ base v l.length l ?_ H1.out.own ao n cap (vb s.size ++ strN s) ?_ HR1.out ?_ H1.out.size ?_; rfl; rfl; rfl; rfl; (have := hl.out; omega); intro v' w2 hown hg; obtain ⟨ao2, n2, c2, rfl⟩ := own_slice hown; have HW := Lib.hid (H1.out.next hown hg hl.out HM.out); have s2 : w2.cell? ⟨B, 0, none⟩ = some v := cell_of_block HW.out.2.1 0; have f2 : w2.frozen? ⟨B, 0, none⟩ = false := free_of_block HW.out.2.1 0; have z2 : B < w2.heap.size := lt_of_block HW.out.2.1; clear hown hg)))
  all_goals go_wp2
  all_goals exact bodyPost_ret (v := .tuple #[]) (by simp [results, go_sem]) rfl ⟨rfl, HW.out.2.2 _ HB1.out, _, HW.out.1⟩
end Go.Proofs.YtjjfmmimmfihgabGreatDoor
