/-
  WHAT IS PROVED: the walk of NumsApart.
-/
import Derived.Deep.RegionLaw
import Derived.Deep.RegionHeld3
import Derived.Test.YtoeafjdlnbcfiaaRefA
import Derived.Test.YtoeafjdlnbcfiaaLDigits
namespace Go.Proofs.Ytoeafjdlnbcfiaa
open Go.RowKit

theorem take_apart (m n : Nat) (k : Nat) (hk : k = min (vb m).length (vb n).length) : ((vb m).take k = (vb n).take k) ↔ m = n := by
  constructor
  · intro h
    rcases Nat.le_total (vb m).length (vb n).length with hle | hle
    · have hkm : k = (vb m).length := by omega
      rw [hkm, List.take_length] at h
      have e : vb m ++ (vb n).drop (vb m).length = vb n ++ [] := by
        rw [List.append_nil]
        conv => lhs; lhs; rw [h]
        exact List.take_append_drop _ _
      exact vb_apart m n _ _ e
    · have hkn : k = (vb n).length := by omega
      rw [hkn, List.take_length] at h
      have e : vb n ++ (vb m).drop (vb n).length = vb m ++ [] := by
        rw [List.append_nil]
        conv => lhs; lhs; rw [← h]
        exact List.take_append_drop _ _
      exact (vb_apart n m _ _ e).symm
  · rintro rfl; rfl

/-- append of bytes that read as a list, as one step of a region that draws -/
theorem step_append_row {w : World} {ops : Array Oper} {o : Oper} {a : Act} {K : Act → World → Prop} {Q : Exit → Act → World → Prop} {E : Prop} (hw : Region.wanted o (yielded ops a.tmps) = true) (s x : Operand)
    (ho : o.op = .call { callee := .builtin .append, args := #[s, x], argTypes := #[22, 22] })
    (base : Nat) (v : Value) (k : Nat) (xs : List Nat) (hs : a.eval s = v) (hown : w.ownsRow base 5 1 v k (cells8 xs))
    (ao : Option Addr) (n cap : Nat) (l : List Nat) (hx : a.eval x = .slice ao n cap) (hr : Row8 w ao n cap l) (hbytes : k + n ≤ 1099511627776) (hbase : base ≤ w.heap.size)
    (h : ∀ v' w', w'.ownsRow base 5 1 v' (k + n) (cells8 (xs ++ l)) → w.grownBy w' v.ownBlock → K (a.put o.dst v') w') :
    if Region.wanted o (yielded ops a.tmps) = true then Oper.wp Try.prog o a w K Q else E := by
  rw [if_pos hw]
  obtain ⟨i0, hi, hz0, hz1, hz2⟩ := info_parts Try.info8
  cases ao with
  | none =>
    have hc := hr.nil rfl
    have hrm := hr.room
    obtain rfl : n = 0 := by omega
    subst hc
    have hl := List.eq_nil_of_length_eq_zero hr.len
    subst hl
    have hrun := run_append_owned_none (P := Try.prog) (w := w) base 22 o.type 5 i0 1 Try.underlying22 hi v k (cells8 xs) hown
    unfold Oper.wp
    simp [execOp, ho, resolve, invoke, builtin, hs, hx, hrun, Result.andThen]
    exact h v w (by simpa using hown) (World.grownBy.refl _ _)
  | some ad =>
    have hl := hr.len
    refine wp_append_own w s x 22 ho base 5 i0 (.int .u8 0) 1 1 Try.underlying22 hi hz0 hz1 hz2 rfl (by decide) v k (cells8 xs) hs hown ad n cap (cells8 l) hx (by simp [cells8_length, hl]) ?_ (cells8_one _) (by unfold maxLen; omega) (by omega) hbase ?_
    · intro j u hu
      have hj : j < l.length := by have := (List.getElem?_eq_some_iff.1 hu).1; simpa [cells8] using this
      rw [cells8_getElem? _ _ hj] at hu
      rw [hr.cell ad rfl j (by omega)]; exact hu
    · intro v' w' h1 h2 _
      rw [cells8_append] at h1
      exact h v' w' h1 h2

theorem sameBytes_says (a b : Option Addr) (n m ca cb : Nat) (l r : List Nat) (w : World) (hl : Row8 w a n ca l) (hr : Row8 w b m cb r) (x : Bool) (hx : decide (l = r) = x) :
    Calls Try.prog 22 #[.slice a n ca, .slice b m cb] w fun e w' => e = .returned (.bool x) ∧ Below w.heap.size w w' := by
  have := says_below (sameBytes_any a b n m ca cb l r w hl hr)
  rw [hx] at this
  exact this

/-- two beginnings are unlike -/
def TakeNe (k m n : Nat) : Prop := ¬ (vb m).take k = (vb n).take k
theorem sameBytes_not (a b : Option Addr) (k ca cb m n : Nat) (w : World) (hl : Row8 w a k ca ((vb m).take k)) (hr : Row8 w b k cb ((vb n).take k)) (h : TakeNe k m n) :
    Calls Try.prog 22 #[.slice a k ca, .slice b k cb] w fun e w' => e = .returned (.bool false) ∧ Below w.heap.size w w' :=
  sameBytes_says a b k k ca cb _ _ w hl hr false (decide_eq_false h)

theorem below_of_grown {w w' : World} {n cap : Nat} (h : w.grownBy w' (Value.slice none n cap).ownBlock) : Below w.heap.size w w' :=
  (Below.refl _ _).grown h (Nat.le_refl _) (fun k hk => by simp [Value.ownBlock] at hk)

/-- what is owned, and not empty, reads as its bytes -/
theorem own_row {w : World} {base n : Nat} {v : Value} {l : List Nat} (h : w.ownsRow base 5 1 v n (cells8 l)) (hl : l.length = n) (hb : ∀ x ∈ l, x < 256) (hn : 0 < n) :
    ∃ g cap, v = .slice (some ⟨g, 0, none⟩) n cap ∧ Hid (Row8 w (some ⟨g, 0, none⟩) n cap l) := by
  subst hl
  obtain ⟨g, c, rfl, _⟩ := own_shape h hn
  obtain ⟨ao2, cap3, he, hr2, _⟩ := Row8.of_owns h hb
  simp only [Value.slice.injEq] at he
  obtain ⟨rfl, _, rfl⟩ := he
  exact ⟨g, c, rfl, hr2⟩

theorem below_of_drew {w w' : World} (h : Below w.drew.heap.size w.drew w') : Below w.heap.size w w' := ⟨h.os, h.tape, h.output, h.size, h.block⟩

set_option maxRecDepth 100000 in
set_option maxHeartbeats 4000000 in
theorem walkN_NumsApart (m n : Nat) (hm : m < 18446744073709551616) (hn : n < 18446744073709551616) (a : Option Addr) (len cap : Nat) (l : List Nat) (w : World) (hrow : Row8 w a len cap l) :
    Calls Try.prog 6 #[.int .u64 (m : Int), .int .u64 (n : Int), .slice a len cap] w fun e w' => e = .returned (.bool true) ∧ Below w.heap.size w w' := by
  have hroom := hrow.room
  have hmost := hrow.most
  have HR := Lib.hid hrow
  have hlen := Lib.hid hrow.len
  have hbyte := Lib.hid hrow.byte
  clear hrow
  go_enter Try.func6, Try.ntmps6
  go_wp2_with fail
  refine (new8_at (List.nil_append _) (put_any none 0 0 [] m hm w (row_nil w) (by omega))).mono ?_
  rintro e w1 ⟨aa, ka, ca, rfl, hr, _, hb⟩
  have HA1 := Lib.hid hr
  have HB1 := Lib.hid hb
  clear hr hb
  go_wp2_with fail
  refine (new8_at (List.nil_append _) (put_any none 0 0 [] n hn w1 (row_nil w1) (by omega))).mono ?_
  rintro e w2 ⟨ab, kb, cb, rfl, hr, _, hb⟩
  have HA2 := Lib.hid (HA1.out.kept hb)
  have HB2 := Lib.hid hr
  have B2 := Lib.hid (below_next HB1.out hb)
  have RM2 := Lib.hid (HR.out.kept B2.out)
  clear hr hb HA1 HB1
  by_cases hbig : 1048576 < len
  · have hd : decide (1048576 < len) = true := by simpa using hbig
    go_wp2_with (first | (go_at_call 10; refine (beyond_one len w2 (by omega) _ hd).mono ?_; rintro e w' ⟨rfl, rfl⟩) | (go_at_call 20; refine (alive_any _).mono ?_; rintro e w4 ⟨rfl, hb4⟩))
    go_ret
    exact ⟨rfl, below_step B2.out hb4⟩
  · have hd : decide (1048576 < len) = false := by simpa using hbig
    have hka : (vb m).length = ka := HA2.out.len
    have hkb : (vb n).length = kb := HB2.out.len
    have hpa := vb_pos m
    have hpb := vb_pos n
    have hla := vb_len64 hm
    have hlb := vb_len64 hn
    rw [hka] at hpa hla
    rw [hkb] at hpb hlb
    obtain ⟨k, hk⟩ : ∃ k, (kb < ka ∧ kb = k) ∨ (¬ kb < ka ∧ ka = k) := by
      by_cases h : kb < ka
      · exact ⟨kb, .inl ⟨h, rfl⟩⟩
      · exact ⟨ka, .inr ⟨h, rfl⟩⟩
    have hiff := Lib.hid (take_apart m n k (by rw [hka, hkb]; omega))
    have KA := Lib.hid hka
    have KB := Lib.hid hkb
    have ca1 := HA2.out.room
    have ca2 := HA2.out.most
    have cb1 := HB2.out.room
    have cb2 := HB2.out.most
    have hg := getL_vb m hm l
    rw [hka] at hg
    have HG := Lib.hid hg
    have PA := Lib.hid (HA2.out.upto k (by omega))
    have PB := Lib.hid (HB2.out.upto k (by omega))
    obtain ⟨ba, oa, rfl, _⟩ := HA2.out.lies hpa
    obtain ⟨bb, ob, rfl, _⟩ := HB2.out.lies hpb
    have HA3 := Lib.hid (HA2.out.alloc (.cells #[.int .i64 (len : Int)] 3))
    have PA3 := Lib.hid (PA.out.alloc (.cells #[.int .i64 (len : Int)] 3))
    have PB3 := Lib.hid (PB.out.alloc (.cells #[.int .i64 (len : Int)] 3))
    have RM3 := Lib.hid (RM2.out.alloc (.cells #[.int .i64 (len : Int)] 3))
    have B3 := Lib.hid (B2.out.alloc B2.out.size (.cells #[.int .i64 (len : Int)] 3))
    have hl7 : Hid ((vb m ++ l).length = ka + len) := by show _ = _; rw [List.length_append, hka, hlen.out]
    have hby7 : Hid (∀ x ∈ vb m ++ l, x < 256) := fun x hx => by
      rcases List.mem_append.1 hx with h | h
      · exact vb_byte m x h
      · exact hbyte.out x h
    clear hka hkb hg HA2 HB2 PA PB RM2 B2
    have hq1 : k ≤ ca := by omega
    have hq2 : k ≤ cb := by omega
    have hq3 : (0 : Int) ≤ (k : Int) := by omega
    have hq4 : (k : Int) ≤ (ca : Int) := by omega
    have hq5 : (k : Int) ≤ (cb : Int) := by omega
    rcases hk with ⟨hlt, rfl⟩ | ⟨hlt, rfl⟩
    all_goals
      by_cases hmn : m = n
      all_goals
        go_wp2_with (go_at_call 10; refine (beyond_one len w2 (by omega) _ hd).mono ?_; rintro e w' ⟨rfl, rfl⟩)
        generalize w2.alloc (.cells #[.int .i64 (len : Int)] 3) = W at *
    · subst hmn
      go_region_held3 (fun _ => True) (trivial) ((first
        | (go_at_call 20; refine (alive_any _).mono ?_; rintro e w4 ⟨rfl, hb4⟩; have HA4 := Lib.hid (HA3.out.kept (below_of_drew hb4)); have PA4 := Lib.hid (PA3.out.kept (below_of_drew hb4)); have PB4 := Lib.hid (PB3.out.kept (below_of_drew hb4)); have RM4 := Lib.hid (RM3.out.kept (below_of_drew hb4)); have B4 := Lib.hid (below_next B3.out (below_of_drew hb4)); clear hb4)
        | (go_at_call 22; refine (sameBytes_at _ _ _ _ _ _ _ _ PA4.out PB4.out).mono ?_; rintro e w5 ⟨rfl, hb5⟩; have HA5 := Lib.hid (HA4.out.kept hb5); have RM5 := Lib.hid (RM4.out.kept hb5); have B5 := Lib.hid (below_next B4.out hb5); clear hb5)
        | (go_at_call 21; refine (reads_yes _ _ _ _ _ R7.out m ka 0 HG.out).mono ?_; rintro e w8 ⟨rfl, hb8⟩; have B8 := Lib.hid (below_next B7.out hb8); clear hb8)
        | (guard_hyp HO6; refine step_append_row ?_ (.tmp 40) (.tmp 41) ?_ w.heap.size v6 ka (vb m) ?_ HO6.out a len cap l ?_ RM6.out ?_ B6.out.size ?_; rfl; rfl; rfl; rfl; omega; intro v7 w7 hown7 hg7; have B7 := Lib.hid (B6.out.grown hg7 B6.out.size (fun j hj => (HO6.out.lt j hj).1)); obtain ⟨g7, c7, rfl, R7⟩ := own_row hown7 hl7.out hby7.out (by omega); clear hown7 hg7)
        | (guard_hyp HA5; refine step_append_row ?_ (.const (.slice none 0 0)) (.tmp 39) ?_ w.heap.size (.slice none 0 0) 0 [] ?_ (World.ownsRow_nil _ _ _ _) (some ⟨ba, oa, none⟩) _ ca (vb m) ?_ HA5.out ?_ B5.out.size ?_; rfl; rfl; rfl; rfl; omega; intro v6 w6 hown6 hg6; simp only [Nat.zero_add, List.nil_append] at hown6; have HO6 := Lib.hid hown6; have hb6 := below_of_grown hg6; have B6 := Lib.hid (below_next B5.out hb6); have RM6 := Lib.hid (RM5.out.kept hb6); clear hown6 hg6 hb6)))
      go_wp2
      go_ret
      exact ⟨rfl, B8.out⟩
    · have hne : ((m : Int) == (n : Int)) = false := by rw [beq_eq_false_iff_ne]; omega
      have HT : Hid (TakeNe kb m n) := fun h => hmn (hiff.out.1 h)
      go_region_held3 (fun _ => True) (trivial) ((first
        | (go_at_call 20; refine (alive_any _).mono ?_; rintro e w4 ⟨rfl, hb4⟩; have HA4 := Lib.hid (HA3.out.kept (below_of_drew hb4)); have PA4 := Lib.hid (PA3.out.kept (below_of_drew hb4)); have PB4 := Lib.hid (PB3.out.kept (below_of_drew hb4)); have RM4 := Lib.hid (RM3.out.kept (below_of_drew hb4)); have B4 := Lib.hid (below_next B3.out (below_of_drew hb4)); clear hb4)
        | (go_at_call 22; refine (sameBytes_not _ _ _ _ _ _ _ _ PA4.out PB4.out HT.out).mono ?_; rintro e w5 ⟨rfl, hb5⟩; have HA5 := Lib.hid (HA4.out.kept hb5); have RM5 := Lib.hid (RM4.out.kept hb5); have B5 := Lib.hid (below_next B4.out hb5); clear hb5)
        | (go_at_call 21; refine (reads_yes _ _ _ _ _ R7.out m ka 0 HG.out).mono ?_; rintro e w8 ⟨rfl, hb8⟩; have B8 := Lib.hid (below_next B7.out hb8); clear hb8)
        | (guard_hyp HO6; refine step_append_row ?_ (.tmp 40) (.tmp 41) ?_ w.heap.size v6 ka (vb m) ?_ HO6.out a len cap l ?_ RM6.out ?_ B6.out.size ?_; rfl; rfl; rfl; rfl; omega; intro v7 w7 hown7 hg7; have B7 := Lib.hid (B6.out.grown hg7 B6.out.size (fun j hj => (HO6.out.lt j hj).1)); obtain ⟨g7, c7, rfl, R7⟩ := own_row hown7 hl7.out hby7.out (by omega); clear hown7 hg7)
        | (guard_hyp HA5; refine step_append_row ?_ (.const (.slice none 0 0)) (.tmp 39) ?_ w.heap.size (.slice none 0 0) 0 [] ?_ (World.ownsRow_nil _ _ _ _) (some ⟨ba, oa, none⟩) _ ca (vb m) ?_ HA5.out ?_ B5.out.size ?_; rfl; rfl; rfl; rfl; omega; intro v6 w6 hown6 hg6; simp only [Nat.zero_add, List.nil_append] at hown6; have HO6 := Lib.hid hown6; have hb6 := below_of_grown hg6; have B6 := Lib.hid (below_next B5.out hb6); have RM6 := Lib.hid (RM5.out.kept hb6); clear hown6 hg6 hb6)))
      go_wp2
      go_ret
      exact ⟨rfl, B8.out⟩
    · subst hmn
      go_region_held3 (fun _ => True) (trivial) ((first
        | (go_at_call 20; refine (alive_any _).mono ?_; rintro e w4 ⟨rfl, hb4⟩; have HA4 := Lib.hid (HA3.out.kept (below_of_drew hb4)); have PA4 := Lib.hid (PA3.out.kept (below_of_drew hb4)); have PB4 := Lib.hid (PB3.out.kept (below_of_drew hb4)); have RM4 := Lib.hid (RM3.out.kept (below_of_drew hb4)); have B4 := Lib.hid (below_next B3.out (below_of_drew hb4)); clear hb4)
        | (go_at_call 22; refine (sameBytes_at _ _ _ _ _ _ _ _ PA4.out PB4.out).mono ?_; rintro e w5 ⟨rfl, hb5⟩; have HA5 := Lib.hid (HA4.out.kept hb5); have RM5 := Lib.hid (RM4.out.kept hb5); have B5 := Lib.hid (below_next B4.out hb5); clear hb5)
        | (go_at_call 21; refine (reads_yes _ _ _ _ _ R7.out m ka 0 HG.out).mono ?_; rintro e w8 ⟨rfl, hb8⟩; have B8 := Lib.hid (below_next B7.out hb8); clear hb8)
        | (guard_hyp HO6; refine step_append_row ?_ (.tmp 40) (.tmp 41) ?_ w.heap.size v6 ka (vb m) ?_ HO6.out a len cap l ?_ RM6.out ?_ B6.out.size ?_; rfl; rfl; rfl; rfl; omega; intro v7 w7 hown7 hg7; have B7 := Lib.hid (B6.out.grown hg7 B6.out.size (fun j hj => (HO6.out.lt j hj).1)); obtain ⟨g7, c7, rfl, R7⟩ := own_row hown7 hl7.out hby7.out (by omega); clear hown7 hg7)
        | (guard_hyp HA5; refine step_append_row ?_ (.const (.slice none 0 0)) (.tmp 39) ?_ w.heap.size (.slice none 0 0) 0 [] ?_ (World.ownsRow_nil _ _ _ _) (some ⟨ba, oa, none⟩) _ ca (vb m) ?_ HA5.out ?_ B5.out.size ?_; rfl; rfl; rfl; rfl; omega; intro v6 w6 hown6 hg6; simp only [Nat.zero_add, List.nil_append] at hown6; have HO6 := Lib.hid hown6; have hb6 := below_of_grown hg6; have B6 := Lib.hid (below_next B5.out hb6); have RM6 := Lib.hid (RM5.out.kept hb6); clear hown6 hg6 hb6)))
      go_wp2
      go_ret
      exact ⟨rfl, B8.out⟩
    · have hne : ((m : Int) == (n : Int)) = false := by rw [beq_eq_false_iff_ne]; omega
      have HT : Hid (TakeNe ka m n) := fun h => hmn (hiff.out.1 h)
      go_region_held3 (fun _ => True) (trivial) ((first
        | (go_at_call 20; refine (alive_any _).mono ?_; rintro e w4 ⟨rfl, hb4⟩; have HA4 := Lib.hid (HA3.out.kept (below_of_drew hb4)); have PA4 := Lib.hid (PA3.out.kept (below_of_drew hb4)); have PB4 := Lib.hid (PB3.out.kept (below_of_drew hb4)); have RM4 := Lib.hid (RM3.out.kept (below_of_drew hb4)); have B4 := Lib.hid (below_next B3.out (below_of_drew hb4)); clear hb4)
        | (go_at_call 22; refine (sameBytes_not _ _ _ _ _ _ _ _ PA4.out PB4.out HT.out).mono ?_; rintro e w5 ⟨rfl, hb5⟩; have HA5 := Lib.hid (HA4.out.kept hb5); have RM5 := Lib.hid (RM4.out.kept hb5); have B5 := Lib.hid (below_next B4.out hb5); clear hb5)
        | (go_at_call 21; refine (reads_yes _ _ _ _ _ R7.out m ka 0 HG.out).mono ?_; rintro e w8 ⟨rfl, hb8⟩; have B8 := Lib.hid (below_next B7.out hb8); clear hb8)
        | (guard_hyp HO6; refine step_append_row ?_ (.tmp 40) (.tmp 41) ?_ w.heap.size v6 ka (vb m) ?_ HO6.out a len cap l ?_ RM6.out ?_ B6.out.size ?_; rfl; rfl; rfl; rfl; omega; intro v7 w7 hown7 hg7; have B7 := Lib.hid (B6.out.grown hg7 B6.out.size (fun j hj => (HO6.out.lt j hj).1)); obtain ⟨g7, c7, rfl, R7⟩ := own_row hown7 hl7.out hby7.out (by omega); clear hown7 hg7)
        | (guard_hyp HA5; refine step_append_row ?_ (.const (.slice none 0 0)) (.tmp 39) ?_ w.heap.size (.slice none 0 0) 0 [] ?_ (World.ownsRow_nil _ _ _ _) (some ⟨ba, oa, none⟩) _ ca (vb m) ?_ HA5.out ?_ B5.out.size ?_; rfl; rfl; rfl; rfl; omega; intro v6 w6 hown6 hg6; simp only [Nat.zero_add, List.nil_append] at hown6; have HO6 := Lib.hid hown6; have hb6 := below_of_grown hg6; have B6 := Lib.hid (below_next B5.out hb6); have RM6 := Lib.hid (RM5.out.kept hb6); clear hown6 hg6 hb6)))
      go_wp2
      go_ret
      exact ⟨rfl, B8.out⟩

theorem walk_NumsApart (a : Int) (h : (Lit.int .u64 a).wf = true) (b : Int) (h' : (Lit.int .u64 b).wf = true) (ao : Option Addr) (len cap : Nat) (l : List Nat) (w : World) (hrow : Row8 w ao len cap l) :
    Calls Try.prog 6 #[.int .u64 a, .int .u64 b, .slice ao len cap] w fun e w' => e = .returned (.bool true) ∧ Below w.heap.size w w' := by
  have hb := wf_u64 h
  have hb' := wf_u64 h'
  obtain ⟨m, rfl⟩ := Int.eq_ofNat_of_zero_le hb.1
  obtain ⟨n, rfl⟩ := Int.eq_ofNat_of_zero_le hb'.1
  exact walkN_NumsApart m n (by omega) (by omega) ao len cap l w hrow
end Go.Proofs.Ytoeafjdlnbcfiaa
