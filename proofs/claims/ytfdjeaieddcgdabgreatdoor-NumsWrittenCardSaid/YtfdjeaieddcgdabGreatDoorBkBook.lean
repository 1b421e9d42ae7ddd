/-
  WHAT IS PROVED: a Book of lists of bytes: kept one by one, looked at in the end.
-/
import Derived.Test.YtfdjeaieddcgdabGreatDoorBkApartByte
namespace Go.Proofs.YtfdjeaieddcgdabGreatDoor
open Go.RowKit
set_option linter.unusedVariables false

/-- A BOOK at B, which was made behind all lists that it keeps; kind J alone keeps some -/
def Bk (w : World) (base B c J T e sz : Nat) (E : List Ent) : Prop :=
  ∃ (cs : Array Value) (hv : Value), w.heap[B]? = some (.cells cs 82 (0, 0)) ∧ cs[0]? = some (.int .i64 (c : Int)) ∧ cs[J]? = some hv ∧ (∀ j, 1 ≤ j → j < 20 → j ≠ J → cs[j]? = some (.slice none 0 0)) ∧
    Held w base B hv T e sz E ∧ base ≤ B ∧ (∀ k, hv.ownBlock = some k → B < k) ∧ (∀ x ∈ E, (∀ k, x.v.ownBlock = some k → k < B) ∧ x.k ≤ c)

def bookC : Array Value := #[.int .i64 0, .slice none 0 0, .slice none 0 0, .slice none 0 0, .slice none 0 0, .slice none 0 0, .slice none 0 0, .slice none 0 0, .slice none 0 0, .slice none 0 0, .slice none 0 0, .slice none 0 0, .slice none 0 0, .slice none 0 0, .slice none 0 0, .slice none 0 0, .slice none 0 0, .slice none 0 0, .slice none 0 0, .slice none 0 0]
theorem bookC_nil (j : Nat) (h1 : 1 ≤ j) (h2 : j < 20) : bookC[j]? = some (.slice none 0 0) := by
  have : j = 1 ∨ j = 2 ∨ j = 3 ∨ j = 4 ∨ j = 5 ∨ j = 6 ∨ j = 7 ∨ j = 8 ∨ j = 9 ∨ j = 10 ∨ j = 11 ∨ j = 12 ∨ j = 13 ∨ j = 14 ∨ j = 15 ∨ j = 16 ∨ j = 17 ∨ j = 18 ∨ j = 19 := by omega
  rcases this with rfl | rfl | rfl | rfl | rfl | rfl | rfl | rfl | rfl | rfl | rfl | rfl | rfl | rfl | rfl | rfl | rfl | rfl | rfl <;> rfl
theorem bookC_one : bookC.all (·.oneCell') = true := by kernel_rfl
theorem book_made (w : World) (old : Array Value) (t : TypeId) : ∃ w5, (w.alloc (.cells old t)).setRow w.heap.size bookC = w5 ∧ w5.heap[w.heap.size]? = some (.cells bookC t (0, 0)) ∧ Below w.heap.size w w5 :=
  ⟨_, rfl, setRow_heap _ _ old _ t (0, 0) (heap_alloc_new w _), ⟨rfl, rfl, rfl, by simp, fun k hk => (setRow_other _ _ k _ (by omega)).trans (heap_alloc_old w _ hk)⟩⟩
theorem Bk.start (w : World) (base J T e sz : Nat) (hb : base ≤ w.heap.size) (h1 : 1 ≤ J) (h2 : J < 20) : Bk (w.alloc (.cells bookC 82)) base w.heap.size 0 J T e sz [] :=
  ⟨bookC, .slice none 0 0, heap_alloc_new _ _, rfl, bookC_nil J h1 h2, fun j h3 h4 _ => bookC_nil j h3 h4,
    ⟨World.ownsRow_nil _ _ _ _, by simp [Value.ownBlock], fun x hx => by simp at hx, fun x hx => by simp at hx, fun i j x y hx => by simp at hx, fun x hx => by simp at hx⟩, hb, fun k hk => by simp [Value.ownBlock] at hk, fun x hx => by simp at hx⟩
theorem Bk.start2 {w : World} {B : Nat} (h : w.heap[B]? = some (.cells bookC 82 (0, 0))) (base J T e sz : Nat) (hb : base ≤ B) (h1 : 1 ≤ J) (h2 : J < 20) : Bk w base B 0 J T e sz [] :=
  ⟨bookC, .slice none 0 0, h, rfl, bookC_nil J h1 h2, fun j h3 h4 _ => bookC_nil j h3 h4,
    ⟨World.ownsRow_nil _ _ _ _, by simp [Value.ownBlock], fun x hx => by simp at hx, fun x hx => by simp at hx, fun i j x y hx => by simp at hx, fun x hx => by simp at hx⟩, hb, fun k hk => by simp [Value.ownBlock] at hk, fun x hx => by simp at hx⟩
theorem Bk.at_ {w : World} {base B c J T e sz : Nat} {E : List Ent} (h : Bk w base B c J T e sz E) : base ≤ B ∧ B < w.heap.size := by
  obtain ⟨cs, hv, h1, _, _, _, _, h2, _⟩ := h
  exact ⟨h2, bk_lt h1⟩
/-- what turns nothing of the Book's -/
theorem Bk.kept {w w' : World} {base B c J T e sz : Nat} {E : List Ent} {S : Nat → Prop} (h : Bk w base B c J T e sz E) (ht : Turn S w w') (hs : ∀ k, k < w.heap.size → ¬ S k) : Bk w' base B c J T e sz E := by
  obtain ⟨cs, hv, h1, h2, h3, h4, h5, h6, h7, h8⟩ := h
  have key : ∀ {n sz : Nat} {v : Value} {xs : List Value} {T : Nat}, w.ownsRow base T sz v n xs → w'.ownsRow base T sz v n xs := fun ho => ht.own ho (fun k hk => hs k (ho.lt k hk).2)
  refine ⟨cs, hv, ht.at_ h1 (hs B (bk_lt h1)), h2, h3, h4, ⟨key h5.own, h5.notB, h5.longs, fun x hx => ?_, h5.apart, h5.sep⟩, h6, h7, h8⟩
  obtain ⟨xs, hxs⟩ := h5.rows x hx
  exact ⟨xs, key hxs⟩

set_option maxHeartbeats 1000000 in
theorem bytes_keep (w : World) (base B c : Nat) (E : List Ent) (ao : Option Addr) (n cap : Nat) (xs : List Value) (h : Bk w base B c 1 225 5 1 E) (hl : E.length ≤ 100) (hc : c ≤ 100)
    (ho : w.ownsRow base 5 1 (.slice ao n cap) n xs) (hB : ∀ k, (Value.slice ao n cap).ownBlock = some k → k < B) (hE : ∀ x ∈ E, ∀ k, x.v.ownBlock = some k → (Value.slice ao n cap).ownBlock ≠ some k) :
    Calls Tryz.prog 38 #[.pointer (some ⟨B, 0, none⟩), .slice ao n cap] w fun e w' => e = .returned (.tuple #[]) ∧ Turn (fun k => B ≤ k) w w' ∧ Bk w' base B (c + 1) 1 225 5 1 (E ++ [⟨.slice ao n cap, .slice none 0 0, n, c + 1⟩]) := by
  obtain ⟨cs, hv, h1, h2, h3, h4, h5, h6, h7, h8⟩ := h
  have hBs := bk_lt h1
  have K := keepByte_any B base c hv E cs w (by omega) ao n cap h1 h2 h3 (by omega) (by omega) h5.notB h5.own
  have HK : Hid (∀ (e : Ending) (w' : World), (e = .returned (.tuple #[]) ∧ Turn (fun k => k = B ∨ hv.ownBlock = some k) w w' ∧
      ∃ hv', w'.heap[B]? = some (.cells ((cs.modify 0 fun _ => .int .i64 ((c + 1 : Nat) : Int)).modify 1 fun _ => hv') 82 (0, 0)) ∧ w'.ownsRow base 225 3 hv' (E.length + 1) (cellsE (E ++ [⟨.slice ao n cap, .slice none 0 0, n, c + 1⟩])) ∧ (hv'.ownBlock = hv.ownBlock ∨ ∃ k, hv'.ownBlock = some k ∧ w.heap.size ≤ k)) → 
      e = .returned (.tuple #[]) ∧ Turn (fun k => B ≤ k) w w' ∧ Bk w' base B (c + 1) 1 225 5 1 (E ++ [⟨.slice ao n cap, .slice none 0 0, n, c + 1⟩])) := by
    refine Lib.hid ?_
    rintro e w' ⟨rfl, ht, hv', g1, g2, g3⟩
    have hlen : 20 ≤ cs.size := by
      have := h4 19 (by omega) (by omega) (by omega)
      have := (Array.getElem?_eq_some_iff.1 this).1
      omega
    have hfree : ∀ k, k < B → ¬ (k = B ∨ hv.ownBlock = some k) := fun k hk h => by
      rcases h with h | h
      · omega
      · have := h7 k h; omega
    have hvb : ∀ k, hv'.ownBlock = some k → B < k := fun k hk => by
      rcases g3 with h9 | ⟨j, h9, h10⟩
      · exact h7 k (h9 ▸ hk)
      · rw [h9] at hk; cases hk; omega
    refine ⟨rfl, ht.mono (fun k _ h => by rcases h with h | h; omega; exact Nat.le_of_lt (h7 k h)), _, hv', g1, ?_, ?_, fun j j1 j2 j3 => ?_, ⟨by rw [List.length_append, List.length_singleton]; exact g2, fun h => by have := hvb B h; omega, fun x hx => ?_, fun x hx => ?_, fun i j x y hx hy hij k hk => ?_, fun x hx k hk => ?_⟩, h6, hvb, fun x hx => ?_⟩
    · rw [Array.getElem?_modify, if_neg (by decide), Array.getElem?_modify, if_pos rfl, h2]; rfl
    · rw [Array.getElem?_modify, if_pos rfl, Array.getElem?_modify, if_neg (by decide), h3]; rfl
    · rw [Array.getElem?_modify, if_neg (by omega), Array.getElem?_modify, if_neg (by omega)]; exact h4 j j1 j2 j3
    · rcases List.mem_append.1 hx with hx | hx
      · exact h5.longs x hx
      · rw [List.mem_singleton.1 hx]; exact ⟨_, _, _, rfl⟩
    · rcases List.mem_append.1 hx with hx | hx
      · obtain ⟨ys, hys⟩ := h5.rows x hx
        exact ⟨ys, ht.own hys (fun k hk => hfree k ((h8 x hx).1 k hk))⟩
      · rw [List.mem_singleton.1 hx]; exact ⟨xs, ht.own ho (fun k hk => hfree k (hB k hk))⟩
    · by_cases hi : i < E.length
      · rw [List.getElem?_append_left hi] at hx
        by_cases hj : j < E.length
        · rw [List.getElem?_append_left hj] at hy
          exact h5.apart i j x y hx hy hij k hk
        · rw [List.getElem?_append_right (by omega)] at hy
          have hy2 := List.mem_singleton.1 (List.mem_of_getElem? hy)
          rw [hy2]
          exact hE x (List.mem_of_getElem? hx) k hk
      · have hi2 : i = E.length := by
          have := (List.getElem?_eq_some_iff.1 hx).1
          rw [List.length_append, List.length_singleton] at this; omega
        rw [List.getElem?_append_right (by omega)] at hx
        have hx2 := List.mem_singleton.1 (List.mem_of_getElem? hx)
        have hj : j < E.length := by
          have := (List.getElem?_eq_some_iff.1 hy).1
          rw [List.length_append, List.length_singleton] at this; omega
        rw [List.getElem?_append_left hj] at hy
        intro h9
        rw [hx2] at hk
        exact hE y (List.mem_of_getElem? hy) k h9 hk
    · have hkB : k < B := by
        rcases List.mem_append.1 hx with hx | hx
        · exact (h8 x hx).1 k hk
        · rw [List.mem_singleton.1 hx] at hk; exact hB k hk
      exact ⟨by omega, fun h => by have := hvb k h; omega⟩
    · rcases List.mem_append.1 hx with hx | hx
      · exact ⟨(h8 x hx).1, by have := (h8 x hx).2; omega⟩
      · rw [List.mem_singleton.1 hx]; exact ⟨hB, Nat.le_refl _⟩
  clear h1 h2 h3 h4 h5 h6 h7 h8 ho hB hE hBs
  go_enter Tryz.func38, Tryz.ntmps38
  go_wp2_with fail
  refine K.mono ?_
  intro e w' hpost
  obtain ⟨rfl, h2, h3⟩ := HK.out e w' hpost
  have H2 := Lib.hid h2
  have H3 := Lib.hid h3
  clear hpost h2 h3
  go_wp2_with fail
  exact bodyPost_end (v := .tuple #[]) (by simp [results, go_sem]) rfl ⟨rfl, H2.out, H3.out⟩

theorem bytes_apart (w : World) (base B c : Nat) (E : List Ent) (h : Bk w base B c 1 225 5 1 E) (hl : E.length ≤ 100) (hc : c ≤ 100) (hn : ∀ x ∈ E, x.n ≤ 1099511627776) (hb : ∀ x ∈ E, ∀ k, x.v.ownBlock = some k → base ≤ k) :
    Calls Tryz.prog 26 #[.pointer (some ⟨B, 0, none⟩)] w fun e w' => e = .returned (.bool true) ∧ Turn (fun k => base ≤ k) w w' := by
  obtain ⟨cs, hv, h1, h2, h3, h4, h5, h6, h7, h8⟩ := h
  have hBs := bk_lt h1
  refine (apartByte_any B base hv E cs w (by omega) h1 h3 h4 (by omega) (fun x hx => ⟨by have := (h8 x hx).2; omega, hn x hx⟩) h5).mono ?_
  rintro e w' ⟨rfl, ht⟩
  refine ⟨rfl, ht.mono (fun k _ h => ?_)⟩
  rcases h with ⟨x, hx, hk⟩ | h
  · exact hb x hx k hk
  · have := h7 k h; omega
end Go.Proofs.YtfdjeaieddcgdabGreatDoor
