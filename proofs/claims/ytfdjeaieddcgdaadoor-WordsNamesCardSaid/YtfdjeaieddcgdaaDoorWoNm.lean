/-
  WHAT IS PROVED: plain mathematics of names.
-/
import Derived.Test.YtfdjeaieddcgdaaDoorWoLaw
import Derived.Test.YtfdjeaieddcgdaaDoorWoN
import Derived.Test.YtfdjeaieddcgdaaDoorWoJ
namespace Go.Proofs.YtfdjeaieddcgdaaDoor

theorem run_all_of (p : UInt8 → Bool) : ∀ (l : List UInt8), runB p l = l.length → ∀ c ∈ l, p c = true
  | [], _, c, hc => by simp at hc
  | d :: r, h, c, hc => by
    rw [runB_cons] at h
    by_cases hd : p d = true
    · rw [if_pos hd, List.length_cons] at h
      rcases List.mem_cons.1 hc with rfl | hc
      · exact hd
      · exact run_all_of p r (by omega) c hc
    · rw [if_neg hd] at h; simp at h
theorem map_same (f : UInt8 → UInt8) : ∀ (l : List UInt8), l = l.map f → ∀ c ∈ l, f c = c
  | [], _, c, hc => by simp at hc
  | d :: r, h, c, hc => by
    rw [List.map_cons, List.cons.injEq] at h
    rcases List.mem_cons.1 hc with rfl | hc
    · exact h.1.symm
    · exact map_same f r h.2 c hc
theorem same_map (f : UInt8 → UInt8) : ∀ (l : List UInt8), (∀ c ∈ l, f c = c) → l.map f = l
  | [], _ => rfl
  | d :: r, h => by rw [List.map_cons, h d List.mem_cons_self, same_map f r (fun c hc => h c (List.mem_cons_of_mem _ hc))]
theorem low_follow (c : UInt8) (h : low c = true) : follow c = true ∧ Lib.lowerB c = c := by
  revert h
  exact forall_u8 (fun c => low c = true → follow c = true ∧ Lib.lowerB c = c) (by decide +kernel) c
theorem small_great (c : UInt8) (h : small c = true) : small (greatB c) = false ∧ low c = true := by
  revert h
  exact forall_u8 (fun c => small c = true → small (greatB c) = false ∧ low c = true) (by decide +kernel) c
theorem name_facts {l : List UInt8} (h : nameB l = true) : (∃ c r, l = c :: r ∧ small c = true) ∧ (∀ c ∈ l, low c = true) ∧ l.length ≤ 16 ∧ keyB l = false := by
  cases l with
  | nil => cases h
  | cons c r =>
    simp only [nameB, Bool.and_eq_true, decide_eq_true_eq, beq_iff_eq, Bool.not_eq_true'] at h
    obtain ⟨h1, h2, h3, h4, h5⟩ := h
    refine ⟨⟨c, r, rfl, h2⟩, fun d hd => ?_, h1, h5⟩
    have h6 := low_of d (run_all_of follow _ h3 d hd)
    rwa [map_same Lib.lowerB _ h4 d hd] at h6
theorem name_of {l : List UInt8} (h : (∃ c r, l = c :: r ∧ small c = true)) (h2 : ∀ c ∈ l, low c = true) (h3 : l.length ≤ 16) (h4 : keyB l = false) : nameB l = true := by
  obtain ⟨c, r, rfl, h1⟩ := h
  simp only [nameB, Bool.and_eq_true, decide_eq_true_eq, beq_iff_eq, Bool.not_eq_true']
  exact ⟨h3, h1, run_whole follow _ (fun d hd => (low_follow d (h2 d hd)).1), (same_map Lib.lowerB _ (fun d hd => (low_follow d (h2 d hd)).2)).symm, h4⟩
theorem name_fine {l : List UInt8} (h : nameB l = true) (k : Nat) (hk : 1 ≤ k) : FineW ⟨1, l.take k, 0, 0⟩ := by
  obtain ⟨⟨c, r, rfl, h1⟩, h2, h3, _⟩ := name_facts h
  obtain ⟨j, rfl⟩ : ∃ j, k = j + 1 := ⟨k - 1, by omega⟩
  refine ⟨fun _ => ⟨⟨c, r.take j, rfl, h1⟩, fun d hd => h2 d (List.mem_of_mem_take hd), ?_, rfl⟩, (fun h : (1 : Nat) = 2 => absurd h (by decide)), (fun h : (1 : Nat) = 3 => absurd h (by decide)), (fun h : (1 : Nat) = 4 => absurd h (by decide)), .inl rfl⟩
  show ((c :: r).take (j + 1)).length ≤ 16
  rw [List.length_take]; omega
theorem name_one {l : List UInt8} (h : nameB l = true) (k : Nat) (hk : 1 ≤ k) : ofB (l.take k) = .ok [⟨1, l.take k, 0, 0⟩] := by
  have h3 := (name_facts h).2.2.1
  have ht : textW false ⟨1, l.take k, 0, 0⟩ = l.take k := rfl
  have := ofB_one false ⟨1, l.take k, 0, 0⟩ (name_fine h k hk) rfl (by rw [ht, List.length_take]; omega)
  rwa [ht] at this
theorem name_pos {l : List UInt8} (h : nameB l = true) : 1 ≤ l.length := by
  obtain ⟨⟨c, r, rfl, _⟩, _⟩ := name_facts h
  simp
theorem name_self {l : List UInt8} (h : nameB l = true) : ofB l = .ok [⟨1, l, 0, 0⟩] := by
  have := name_one h l.length (name_pos h)
  rwa [List.take_length] at this
theorem name_great {l : List UInt8} (h : nameB l = true) : ofB (l.map greatB) = .ok [⟨1, l, 0, 0⟩] ∧ nameB (l.map greatB) = false := by
  have h3 := (name_facts h).2.2.1
  have hf := name_fine h l.length (name_pos h)
  rw [List.take_length] at hf
  have ht : textW true ⟨1, l, 0, 0⟩ = l.map greatB := rfl
  have := ofB_one true ⟨1, l, 0, 0⟩ hf rfl (by rw [ht, List.length_map]; omega)
  rw [ht] at this
  refine ⟨this, ?_⟩
  obtain ⟨⟨c, r, rfl, h1⟩, _⟩ := name_facts h
  rw [List.map_cons]
  simp only [nameB, (small_great c h1).1, Bool.false_and, Bool.and_false]
theorem name_blank (l : List UInt8) : nameB (l ++ [32]) = false := by
  cases hb : nameB (l ++ [32]) with
  | false => rfl
  | true =>
    have := (name_facts hb).2.1 32 (by simp)
    revert this; decide
theorem name_sign (c : UInt8) (l : List UInt8) (h : small c = false) : nameB (c :: l) = false := by
  simp only [nameB, h, Bool.false_and, Bool.and_false]
theorem name_more {l : List UInt8} (h : nameB l = true) (c : UInt8) (hc : c = 95 ∨ c = 48) (hl : l.length < 16) : nameB (l ++ [c]) = true := by
  obtain ⟨⟨d, r, rfl, h1⟩, h2, _, _⟩ := name_facts h
  refine name_of ⟨d, r ++ [c], rfl, h1⟩ (fun x hx => ?_) (by rw [List.length_append, List.length_singleton]; omega) ?_
  · rcases List.mem_append.1 hx with hx | hx
    · exact h2 x hx
    · rw [List.mem_singleton.1 hx]
      rcases hc with rfl | rfl <;> decide
  · have hk : keysB.all (fun k => !(k.getLast? == some 95) && !(k.getLast? == some 48)) = true := by decide +kernel
    cases hb : keyB (d :: r ++ [c]) with
    | false => rfl
    | true =>
      unfold keyB at hb
      have := List.all_eq_true.1 hk _ (List.contains_iff_mem.1 hb)
      rw [List.getLast?_append] at this
      rcases hc with rfl | rfl <;> simp at this
end Go.Proofs.YtfdjeaieddcgdaaDoor
