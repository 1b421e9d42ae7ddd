/-
  WHAT IS PROVED: contracts of package values that lean on the library: decimal digits, texts with quotes.
-/
import Derived.Test.YtjjfmmimmfihgaaDoorValA
import Derived.Test.YtjjfmmimmfihgaaDoorShelf
import Derived.Lib.AppendIntMem
namespace Go.Proofs.YtjjfmmimmfihgaaDoor
open Go.RowKit Go.Lib

/-- what the library's variables hold -/
structure Wd (w : World) : Prop where
  tab : TabIs Tryd.prog w "internal/strconv.uint64pow10" .u64 pow10Tab
  max : ∃ m, w.cell? ⟨0, 0, none⟩ = some (.int .i64 m)
theorem Wd.kept {w w' : World} (h : Wd w) (hb : Below w.heap.size w w') : Wd w' := by
  obtain ⟨m, hm⟩ := h.max
  exact ⟨(tabBelow_of_tabIs h.tab) w' hb, m, (hb.cell (World.block_lt_of_cell? w _ hm)).trans hm⟩
theorem Wd.alloc {w : World} (h : Wd w) (o : Obj) : Wd (w.alloc o) := h.kept (below_alloc w o)

theorem format_any (n : Int) (w : World) (hw : Wd w) (h0 : -9223372036854775808 ≤ n) (h1 : n ≤ 9223372036854775807) :
    Calls Tryd.prog 45 #[.int .i64 n, .int .i64 10] w fun e w' => e = .returned (.string ⟨(itoa n).toArray⟩) ∧ Below w.heap.size w w' :=
  (Tryd.strconv_FormatInt_10 n h0 h1 w hw.tab).mono fun e w' ⟨he, k, os, hw'⟩ => ⟨he, by subst hw'; exact below_grow _ w (Nat.le_refl _) k os⟩

theorem dbl_append (a b : List UInt8) : Val.dbl (a ++ b) = Val.dbl a ++ Val.dbl b := List.flatMap_append
theorem dbl_none : ∀ (l : List UInt8), (∀ c ∈ l, c ≠ 39) → Val.dbl l = l
  | [], _ => rfl
  | c :: l, h => by
    rw [dbl_cons, if_neg (h c (by simp)), dbl_none l (fun d hd => h d (by simp [hd]))]; rfl
theorem replaceK_dbl : ∀ (n : Nat) (l : List UInt8), l.length ≤ n → replaceK [39] [39, 39] (count l [39]) l = Val.dbl l
  | n, l, hn => by
    have hone := index_one l 39
    have hge := index_ge l [39]
    by_cases h : index l [39] = -1
    · rw [count_miss h]
      rw [hone] at h
      have hno := indexByte_none h
      rw [dbl_none l (fun c hc e => ?_)]
      · rfl
      · obtain ⟨k, hk⟩ := List.mem_iff_getElem?.1 hc
        exact hno k (by rw [hk, e])
    · obtain ⟨i, hi⟩ : ∃ i : Nat, index l [39] = i := ⟨(index l [39]).toNat, by omega⟩
      have hi2 := hi
      rw [hone] at hi2
      obtain ⟨h1, h2⟩ := indexByte_some hi2
      have hil : i < l.length := (List.getElem?_eq_some_iff.1 h1).1
      rw [count_hit (by simp) hi, Nat.add_comm, replaceK_hit _ _ _ _ i hi]
      have hd : ([39] : List UInt8).length = 1 := rfl
      rw [hd]
      cases n with
      | zero => omega
      | succ n =>
        rw [replaceK_dbl n (l.drop (i + 1)) (by simp; omega)]
        have e : l = l.take i ++ 39 :: l.drop (i + 1) := by
          have : l[i] = 39 := by
            have := List.getElem?_eq_getElem hil
            rw [this] at h1; exact Option.some.inj h1
          conv => lhs; rw [← List.take_append_drop i l]
          rw [List.drop_eq_getElem_cons hil, this]
        conv => rhs; rw [e]
        rw [dbl_append, dbl_cons, if_pos rfl, dbl_none (l.take i) (fun c hc e => ?_)]
        · simp
        · obtain ⟨k, hk⟩ := List.mem_iff_getElem?.1 hc
          have hki : k < i := by have := (List.getElem?_eq_some_iff.1 hk).1; rw [List.length_take] at this; omega
          rw [List.getElem?_take_of_lt hki] at hk
          exact h2 k hki (by rw [hk, e])
/-- quotes twice, as the library's function says it -/
theorem replace_dbl (l : List UInt8) : replaceAll l [39] [39, 39] = Val.dbl l := by
  unfold replaceAll replace replaceNum
  rw [if_neg (by decide), if_pos (by left; decide)]
  exact replaceK_dbl l.length l (Nat.le_refl _)

theorem letters_any (k : Nat) (i : Int) (s : ByteArray) (w : World) (_hk : k < 256) (h0 : -9223372036854775808 ≤ i) (h1 : i ≤ 9223372036854775807) (hw : Wd w) :
    Calls Tryd.prog 50 #[.agg #[.int .u8 (k : Int), .int .i64 i, .string s]] w fun e w' => e = .returned (.string (Val.plain ⟨k, i, s⟩)) ∧ Below w.heap.size w w' := by
  by_cases h : k = 1
  · subst h
    go_enter Tryd.func50, Tryd.ntmps50
    go_wp2_with (go_at_call 45; refine (format_any _ _ (hw.alloc _) h0 h1).mono ?_; rintro e w1 ⟨rfl, hb⟩)
    go_ret
    exact ⟨rfl, below_step (Below.refl _ _) hb⟩
  · have hk1 : ((k : Int) == 1) = false := by rw [beq_eq_false_iff_ne]; omega
    have hp : Val.plain ⟨k, i, s⟩ = s := if_neg h
    rw [hp]
    go_enter Tryd.func50, Tryd.ntmps50
    go_wp2
    go_ret
    exact ⟨rfl, below_alloc _ _⟩
end Go.Proofs.YtjjfmmimmfihgaaDoor
