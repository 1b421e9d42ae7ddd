/-
  WHAT IS PROVED: what it is for a slice of strings to read as a list; contract of TextsSize; texts' bytes, one behind the other, as they are read.
-/
import Derived.SizedLaws
import Derived.SliceStrings
import Derived.Test.YtoeafjdlnbcfiaaQuiet
import Derived.Test.YtoeafjdlnbcfiaaLDigits
namespace Go.Proofs.Ytoeafjdlnbcfiaa
open Go.RowKit Go.ChangeShapes

/-- THE SLICE 'ao, n, cap' READS AS THE STRINGS ss -/
structure RowS (w : World) (ao : Option Addr) (n cap : Nat) (ss : List ByteArray) : Prop where
  len : ss.length = n
  room : n ≤ cap
  most : cap ≤ 9223372036854775807
  nil : ao = none → cap = 0
  cell : ∀ a, ao = some a → ∀ j, j < n → w.cell? (a.add j) = some (.string (ss.getD j ByteArray.empty))
  size : ∀ s ∈ ss, s.size ≤ 140737488351232

theorem rowS_nil (w : World) : RowS w none 0 0 [] := ⟨rfl, Nat.le_refl _, by omega, fun _ => rfl, fun a ha => by simp at ha, fun x hx => by simp at hx⟩

theorem rowS_in (W : World) (x : Addr) (l c : Nat) (ss : List ByteArray) (hl : l ≤ c) (hm : c ≤ maxLen) (hz : ss.length = c) (hcell : ∀ i, i < ss.length → W.cell? (x.add i) = some (.string (ss.getD i ByteArray.empty)))
    (hs : ∀ s ∈ ss, s.size ≤ 140737488351232) : RowS W (some x) l c (ss.take l) := by
  refine ⟨by simp; omega, hl, by unfold maxLen at hm; exact hm, fun h => by simp at h, fun a ha j hj => ?_, fun y hy => hs y (List.mem_of_mem_take hy)⟩
  obtain rfl := Option.some.inj ha
  rw [hcell j (by omega)]
  have : j < ss.length := by omega
  simp [List.getD, this, hj]

theorem RowS.lt {w : World} {ao : Option Addr} {n cap : Nat} {l : List ByteArray} (h : RowS w ao n cap l) : ∀ a, ao = some a → 0 < n → a.block < w.heap.size := by
  intro a ha hn
  have := World.block_lt_of_cell? w _ (h.cell a ha 0 hn)
  simpa [Addr.add] using this

theorem RowS.kept {w w' : World} {ao : Option Addr} {n cap : Nat} {l : List ByteArray} (h : RowS w ao n cap l) (hb : Below w.heap.size w w') : RowS w' ao n cap l := by
  refine ⟨h.len, h.room, h.most, h.nil, fun a ha j hj => ?_, h.size⟩
  rw [hb.cell (p := a.add j) (by have := h.lt a ha (by omega); unfold Addr.add; split <;> simpa using this)]
  exact h.cell a ha j hj

theorem RowS.lies {w : World} {ao : Option Addr} {n cap : Nat} {l : List ByteArray} (h : RowS w ao n cap l) (hn : 0 < n) :
    ∃ b off, ao = some ⟨b, off, none⟩ ∧ ∀ j c, l[j]? = some (c : ByteArray) → w.cell? ⟨b, off + j, none⟩ = some (.string c) := by
  cases ao with
  | none => have := h.nil rfl; have := h.room; omega
  | some a =>
    obtain ⟨b, off, sp⟩ := a
    have h0 := h.cell _ rfl 0 hn
    have hsp : sp = none := by
      cases sp with
      | none => rfl
      | some x =>
        simp [Addr.add, World.cell?] at h0
        split at h0 <;> simp at h0
    subst hsp
    refine ⟨b, off, rfl, fun j c hc => ?_⟩
    have hj := (List.getElem?_eq_some_iff.1 hc).1
    have h1 := h.cell _ rfl j (by have := h.len; omega)
    rw [Addr.add_lit] at h1
    rw [h1]
    simp [List.getD, hc]

/-- how many letters there are -/
def letters (ss : List ByteArray) : Nat := (ss.map ByteArray.size).sum
theorem letters_next (ss : List ByteArray) (k : Nat) (s : ByteArray) (h : ss[k]? = some s) : letters (ss.take (k + 1)) = letters (ss.take k) + s.size := by
  unfold letters
  rw [List.take_add_one, h]; simp
theorem letters_le (ss : List ByteArray) (k : Nat) : letters (ss.take k) ≤ letters ss := by
  have h : letters (ss.take k ++ ss.drop k) = letters ss := by rw [List.take_append_drop]
  unfold letters at h ⊢
  rw [List.map_append, List.sum_append] at h; omega

set_option maxHeartbeats 1000000 in
/-- TextsSize: their number and all their letters, where that is at most 1048576; else more than that -/
theorem textsSize_any (ao : Option Addr) (n cap : Nat) (ss : List ByteArray) (w : World) (hr : RowS w ao n cap ss) (hn : n ≤ 140737488351232) :
    Calls Try.prog 24 #[.slice ao n cap] w fun e w' => ∃ v : Nat, e = .returned (.int .i64 (v : Int)) ∧ (v = n + letters ss ∨ (1048576 < v ∧ 1048576 < n + letters ss)) ∧ w = w' := by
  have hlen := Lib.hid hr.len
  have hroom := hr.room
  have hmost := hr.most
  rcases Nat.eq_zero_or_pos n with rfl | hpos
  · have h0 : ss = [] := List.eq_nil_of_length_eq_zero hlen.out
    subst h0
    clear hr
    go_enter Try.func24, Try.ntmps24
    go_wp2
    refine wp_loop_rounds 1 ?_
    rw [rounds_succ]
    go_wp2
    go_ret
    exact ⟨0, rfl, .inl rfl, rfl⟩
  · obtain ⟨b, off, rfl, hcell⟩ := hr.lies hpos
    have HC := Lib.hid hcell
    have HS := Lib.hid hr.size
    clear hr hcell
    go_enter Try.func24, Try.ntmps24
    go_wp2
    go_loop [3, 4] (fun t i => ∃ k s : Nat, k ≤ n ∧ i = .int .i64 k ∧ t = .int .i64 s ∧ Hid (s = n + letters (ss.take k)) ∧ s ≤ 281474976710656) (fun _ i => n - (intOf i).toNat)
    case atStart => exact ⟨0, n, by omega, rfl, rfl, Lib.hid (by simp [letters]), by omega⟩
    case round =>
      obtain ⟨k, s, hk, rfl, rfl, hS, hs⟩ := hrel
      by_cases hlt : k < n
      · by_cases hbig : s ≤ 1048576
        · obtain ⟨x, hx⟩ : ∃ x, ss[k]? = some x := ⟨ss[k]'(by rw [hlen.out]; exact hlt), by simp [hlen.out, hlt]⟩
          have hc := HC.out k x hx
          have HN := Lib.hid (letters_next ss k x hx)
          have hxs := HS.out x (List.mem_of_getElem? hx)
          clear hx
          go_wp2
          go_round
          case rel => exact ⟨k + 1, s + x.size, by omega, by go_num, by go_num, Lib.hid (by rw [HN.out, hS.out]; omega), by omega⟩
          case measure => simp [intOf]; omega
        · go_wp2
          go_ret
          have := letters_le ss k
          have := hS.out
          exact ⟨s, rfl, .inr ⟨by omega, by omega⟩, rfl⟩
      · obtain rfl : k = n := by omega
        go_wp2
        go_ret
        have h1 := hS.out
        rw [List.take_of_length_le (by rw [hlen.out]; omega)] at h1
        exact ⟨s, rfl, .inl h1, rfl⟩

theorem mem_weightsAll {H : Type} {P : Program} {e : TypeId} {l : List (DataW H)} {d : DataW H} {n : Nat} (hd : d ∈ l) (hn : n ∈ d.weights P e) : n ∈ DataW.weightsAll P e l := by
  induction l with
  | nil => cases hd
  | cons x r ih =>
    simp only [DataW.weightsAll, List.mem_append]
    rcases List.mem_cons.1 hd with rfl | h
    · exact .inl hn
    · exact .inr (ih h)

/-- each string of a slice of strings lies within the form's own reach -/
theorem sized_strs {H : Type} {P : Program} {ts : List TypeId} {ds : List (DataW H)} (h : (DataW.weightsEach P ts ds).all (· ≤ reachBytes) = true) {j : Nat} {t e : TypeId} {ss : List ByteArray} {k : Nat}
    (ht : ts[j]? = some t) (hd : ds[j]? = some (.slice (strs (ss.take k)) (strs (ss.drop k)))) (hu : P.underlying t = some (.slice e)) : ∀ s ∈ ss, s.size ≤ 140737488351232 := by
  intro s hs
  have hm : s.data.toList.length ∈ DataW.weights P t (.slice (strs (H := H) (ss.take k)) (strs (ss.drop k))) := by
    simp only [DataW.weights, hu, List.mem_cons, List.mem_append]
    rw [← List.take_append_drop k ss] at hs
    right
    rcases List.mem_append.1 hs with h1 | h1
    · exact .inl (mem_weightsAll (d := .lit (.string s.data.toList)) (List.mem_map.2 ⟨s, h1, rfl⟩) (by simp [DataW.weights]))
    · exact .inr (mem_weightsAll (d := .lit (.string s.data.toList)) (List.mem_map.2 ⟨s, h1, rfl⟩) (by simp [DataW.weights]))
  have := List.all_eq_true.1 h _ (DataW.weights_mem_each ht hd _ hm)
  exact of_decide_eq_true this

end Go.Proofs.Ytoeafjdlnbcfiaa
