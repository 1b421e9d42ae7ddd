/-
  WHAT IS PROVED: contracts of words: the word that a piece is.
-/
import Derived.Test.YtfdjeaieddcgdaaDoorWoD
import Derived.Test.YtfdjeaieddcgdaaDoorWoRep
namespace Go.Proofs.YtfdjeaieddcgdaaDoor
open Go.RowKit Go.ChangeShapes
set_option linter.unusedVariables false

def strU (l : List UInt8) : ByteArray := ⟨l.toArray⟩
theorem strU_data (l : List UInt8) : (strU l).data.toList = l := rfl
theorem strU_size (l : List UInt8) : (strU l).size = l.length := by simp [strU, ByteArray.size]
theorem strU_of (s : ByteArray) : strU s.data.toList = s := by cases s; rfl

/-! ### A block of four cells -/
theorem blk_cell {w : World} {B : Nat} {cs : Array Value} {t : TypeId} (h : w.heap[B]? = some (.cells cs t (0, 0))) (j : Nat) : w.cell? ⟨B, j, none⟩ = cs[j]? := by
  simp [World.cell?, h]
theorem blk_free {w : World} {B : Nat} {cs : Array Value} {t : TypeId} (h : w.heap[B]? = some (.cells cs t (0, 0))) (j : Nat) : w.frozen? ⟨B, j, none⟩ = false := by
  simp [World.frozen?, h]
theorem blk_set {w : World} {B j : Nat} {cs : Array Value} {t : TypeId} (v : Value) (h : w.heap[B]? = some (.cells cs t (0, 0))) : (w.setCell ⟨B, j, none⟩ v).heap[B]? = some (.cells (cs.modify j fun _ => v) t (0, 0)) := by
  obtain ⟨hlt, hk⟩ := Array.getElem?_eq_some_iff.1 h
  show (w.heap.modify B _)[B]? = _
  rw [Array.getElem?_eq_getElem (by rw [Array.size_modify]; exact hlt), Array.getElem_modify_self, hk]
  rfl
structure Four (w : World) (B : Nat) (t : TypeId) (a b c d : Value) : Prop where
  at_ : w.heap[B]? = some (.cells #[a, b, c, d] t (0, 0))
theorem Four.cells {w : World} {B : Nat} {t : TypeId} {a b c d : Value} (h : Four w B t a b c d) : w.cell? ⟨B, 0, none⟩ = some a ∧ w.cell? ⟨B, 1, none⟩ = some b ∧ w.cell? ⟨B, 2, none⟩ = some c ∧ w.cell? ⟨B, 3, none⟩ = some d :=
  ⟨blk_cell h.at_ 0, blk_cell h.at_ 1, blk_cell h.at_ 2, blk_cell h.at_ 3⟩
theorem Four.free {w : World} {B : Nat} {t : TypeId} {a b c d : Value} (h : Four w B t a b c d) : w.frozen? ⟨B, 0, none⟩ = false ∧ w.frozen? ⟨B, 1, none⟩ = false ∧ w.frozen? ⟨B, 2, none⟩ = false ∧ w.frozen? ⟨B, 3, none⟩ = false :=
  ⟨blk_free h.at_ 0, blk_free h.at_ 1, blk_free h.at_ 2, blk_free h.at_ 3⟩
theorem Four.set {w : World} {B : Nat} {t : TypeId} {a b c d : Value} (h : Four w B t a b c d) (a' b' c' d' : Value) : Four ((((w.setCell ⟨B, 0, none⟩ a').setCell ⟨B, 1, none⟩ b').setCell ⟨B, 2, none⟩ c').setCell ⟨B, 3, none⟩ d') B t a' b' c' d' :=
  ⟨blk_set d' (blk_set c' (blk_set b' (blk_set a' h.at_)))⟩
theorem Four.new (w : World) (t : TypeId) (a b c d : Value) : Four (w.alloc (.cells #[a, b, c, d] t)) w.heap.size t a b c d := ⟨heap_alloc_new w _⟩
theorem Four.kept {w w' : World} {B : Nat} {t : TypeId} {a b c d : Value} (h : Four w B t a b c d) (hb : Below w.heap.size w w') : Four w' B t a b c d :=
  ⟨(hb.block B (Array.getElem?_eq_some_iff.1 h.at_).1).trans h.at_⟩
theorem below_set4 {w W : World} {B : Nat} (h : Below w.heap.size w W) (hB : w.heap.size ≤ B) (a b c d : Value) : Below w.heap.size w ((((W.setCell ⟨B, 0, none⟩ a).setCell ⟨B, 1, none⟩ b).setCell ⟨B, 2, none⟩ c).setCell ⟨B, 3, none⟩ d) :=
  (((h.setCell (p := ⟨B, 0, none⟩) hB _).setCell (p := ⟨B, 1, none⟩) hB _).setCell (p := ⟨B, 2, none⟩) hB _).setCell (p := ⟨B, 3, none⟩) hB _

/-- a word, or none, as the Go functions hand it back; 'at' is 0 there -/
def gotA : Got → Value
  | .no _ => .agg #[.int .u8 0, .string ⟨#[]⟩, .int .i64 0, .int .i64 0]
  | .yes k s i => .agg #[.int .u8 (k : Int), .string (strU s), .int .i64 (i : Int), .int .i64 0]
def gotE : Got → Nat
  | .no e => e
  | .yes _ _ _ => 0
def GotR (g : Got) (w : World) (e : Ending) (w' : World) : Prop := e = .returned (.tuple #[gotA g, .int .i64 (gotE g : Nat)]) ∧ Below w.heap.size w w'

/-- what a function hands back whose first result lies in a block -/
theorem word_results {fn : Func} {tmps : Array Value} {W : World} {B : Nat} {a b c d v : Value} (hres : fn.results = #[.cell 2 29, .tmp 3]) (h : Four W B 29 a b c d)
    (h2 : tmps[2]? = some (.pointer (some ⟨B, 0, none⟩))) (h3 : tmps[3]? = some v) : (results fn tmps).run Tryd.prog W = .ok (.tuple #[.agg #[a, b, c, d], v]) W := by
  obtain ⟨c0, c1, c2, c3⟩ := h.cells
  simp [results, hres, h2, h3, go_sem, c0, c1, c2, c3]

theorem parse_cases (l : List UInt8) (hl : l ≠ []) (h : ∀ c ∈ l, digitB c = true) : Lib.parseIntB 64 l = if valB 0 l < 9223372036854775808 then .ok (valB 0 l : Int) else .range := by
  cases l with
  | nil => exact absurd rfl hl
  | cons c r =>
    have hc := h c List.mem_cons_self
    unfold digitB at hc
    simp only [Bool.and_eq_true, decide_eq_true_eq] at hc
    unfold Lib.parseIntB
    have e1 : ¬ (c.toNat = 43 ∨ c.toNat = 45) := by omega
    have e2 : ¬ c.toNat = 45 := by omega
    simp only [if_neg e1]
    unfold Lib.parseUintB
    rw [if_neg (by simp), show (2 : Nat) ^ 64 - 1 = 18446744073709551615 from rfl, uint_val _ rfl (c :: r) 0 h (by omega)]
    obtain ⟨v, hv⟩ : ∃ v, valB 0 (c :: r) = v := ⟨_, rfl⟩
    rw [hv]
    by_cases h1 : v ≤ 18446744073709551615
    · rw [if_pos h1]
      dsimp only
      by_cases h2 : v < 9223372036854775808
      · rw [if_neg (by simp [e2]; omega), if_neg (by simp [e2]), if_neg e2, if_pos h2]
      · rw [if_pos ⟨e2, by omega⟩, if_neg h2]
    · rw [if_neg h1, if_neg (by omega)]

set_option maxHeartbeats 1000000 in
theorem name_any (s : ByteArray) (w : World) (hs : s.size ≤ 4096) (h : ∀ c ∈ s.data.toList, follow c = true) :
    Calls Tryd.prog 30 #[.string s] w (GotR (if 16 < s.size then .no 4 else .yes 1 (Lib.toLowerA s.data.toList) 0) w) := by
  have hT := fun w => Tryd.strings_ToLower_ascii s w (by omega) (fun j b hj => by
    have := h b (List.mem_of_getElem? hj)
    revert this
    exact forall_u8 (fun c => follow c = true → c.toNat < 128) (by decide +kernel) b)
  have HB := Lib.hid (below_alloc w (.cells #[.int .u8 0, .string ⟨#[]⟩, .int .i64 0, .int .i64 0] 29))
  have HN := Lib.hid (Four.new w 29 (.int .u8 0) (.string ⟨#[]⟩) (.int .i64 0) (.int .i64 0))
  clear h
  by_cases hl : 16 < s.size
  · rw [if_pos hl]
    go_enter Tryd.func30, Tryd.ntmps30
    go_wp2_with fail
    exact bodyPost_ret (word_results Tryd.results30 HN.out rfl rfl) rfl ⟨rfl, HB.out⟩
  · rw [if_neg hl]
    go_enter Tryd.func30, Tryd.ntmps30
    go_wp2_with (go_at_call 24; refine (hT _).mono ?_; rintro e w1 ⟨rfl, hb1⟩; have HN1 := Lib.hid (HN.out.kept hb1); have HB1 := Lib.hid (below_step (Below.refl _ _) hb1); obtain ⟨q0, q1, q2, q3⟩ := HN1.out.cells; obtain ⟨f0, f1, f2, f3⟩ := HN1.out.free; clear hb1)
    exact bodyPost_ret (word_results Tryd.results30 (HN1.out.set _ _ _ _) rfl rfl) rfl ⟨rfl, below_set4 HB1.out (Nat.le_refl _) _ _ _ _⟩

theorem below_or {w w' : World} (h : w' = w ∨ ∃ t, w' = Lib.bytesWorld w 5 t) : Below w.heap.size w w' := by
  rcases h with rfl | ⟨t, rfl⟩
  · exact Below.refl _ _
  · exact Lib.bytesWorld_below _ _ _

set_option maxHeartbeats 1000000 in
theorem number_any (s : ByteArray) (w : World) (hw : Wo w) (hs : s.size ≤ 4096) (h0 : 0 < s.size) (h : ∀ c ∈ s.data.toList, digitB c = true) :
    Calls Tryd.prog 32 #[.string s] w (GotR (match numB s.data.toList with | none => .no 12 | some n => .yes 2 [] n) w) := by
  have hne : s.data.toList ≠ [] := fun e => by have := str_len s; rw [e] at this; simp at this; omega
  have hval := numB_val _ hne h
  have HB := Lib.hid (below_alloc w (.cells #[.int .u8 0, .string ⟨#[]⟩, .int .i64 0, .int .i64 0] 29))
  have HN := Lib.hid (Four.new w 29 (.int .u8 0) (.string ⟨#[]⟩) (.int .i64 0) (.int .i64 0))
  have hW := hw.kept HB.out
  obtain ⟨ev, hev, hk⟩ := hW.range
  obtain ⟨v, hv⟩ : ∃ v, valB 0 s.data.toList = v := ⟨_, rfl⟩
  rw [hv] at hval
  by_cases hlt : v < 9223372036854775808
  · rw [if_pos hlt] at hval
    have hp : Lib.parseIntB 64 s.data.toList = .ok (v : Int) := by rw [parse_cases _ hne h, hv, if_pos hlt]
    rw [hval]
    dsimp only
    have hC := Tryd.strconv_ParseInt_10_at64_ok s (by omega) v hp
    clear hval hv hp
    go_enter Tryd.func32, Tryd.ntmps32
    go_wp2_with (go_at_call 44; refine (hC _).mono ?_; rintro e w1 ⟨rfl, hb0⟩; have hb1 := below_or hb0; clear hb0; have HN1 := Lib.hid (HN.out.kept hb1); have HB1 := Lib.hid (below_step (Below.refl _ _) hb1); obtain ⟨q0, q1, q2, q3⟩ := HN1.out.cells; obtain ⟨f0, f1, f2, f3⟩ := HN1.out.free; clear hb1)
    exact bodyPost_ret (word_results Tryd.results32 (HN1.out.set _ _ _ _) rfl rfl) rfl ⟨rfl, below_set4 HB1.out (Nat.le_refl _) _ _ _ _⟩
  · rw [if_neg hlt] at hval
    have hp : Lib.parseIntB 64 s.data.toList = .range := by rw [parse_cases _ hne h, hv, if_neg hlt]
    rw [hval]
    dsimp only
    have hC := Tryd.strconv_ParseInt_10_at64_range s (by omega) hp ev _ hev hk
    clear hval hv hp hev hk
    go_enter Tryd.func32, Tryd.ntmps32
    go_wp2_with (go_at_call 44; refine hC.mono ?_; rintro e w1 ⟨N, rfl, _, _, hb1⟩; have HN1 := Lib.hid (HN.out.kept hb1); have HB1 := Lib.hid (below_step (Below.refl _ _) hb1); obtain ⟨q0, q1, q2, q3⟩ := HN1.out.cells; obtain ⟨f0, f1, f2, f3⟩ := HN1.out.free; clear hb1)
    exact bodyPost_ret (word_results Tryd.results32 (HN1.out.set _ _ _ _) rfl rfl) rfl ⟨rfl, below_set4 HB1.out (Nat.le_refl _) _ _ _ _⟩

set_option maxHeartbeats 1000000 in
theorem text_piece (s : ByteArray) (w : World) (hw : Wo w) (hs : s.size ≤ 4096) (h0 : 2 ≤ s.size) :
    Calls Tryd.prog 34 #[.string s] w (GotR (if 512 < (undbl (insideB s.data.toList)).length then .no 3 else .yes 3 (undbl (insideB s.data.toList)) 0) w) := by
  have HB := Lib.hid (below_alloc w (.cells #[.int .u8 0, .string ⟨#[]⟩, .int .i64 0, .int .i64 0] 29))
  have HN := Lib.hid (Four.new w 29 (.int .u8 0) (.string ⟨#[]⟩) (.int .i64 0) (.int .i64 0))
  have hW := hw.kept HB.out
  obtain ⟨m, hm⟩ := hW.max
  have hin : (s.extract 1 (s.size - 1)).data.toList = insideB s.data.toList := by
    rw [Lib.extract_data]; unfold insideB; rw [str_len]; congr 1
  have hx : (s.extract 1 (s.size - 1)).size ≤ 4096 := by rw [Lib.size_eq, hin]; unfold insideB; simp; have := str_len s; simp at this; omega
  have hc := Lib.countB_le ⟨#[39, 39]⟩ (by decide) _ (s.extract 1 (s.size - 1)) (Nat.le_refl _)
  have hC := Tryd.strings_ReplaceAll (s.extract 1 (s.size - 1)) ⟨#[39, 39]⟩ ⟨#[39]⟩ m _ (by omega) hm (by decide) (by rw [show (⟨#[39]⟩ : ByteArray).size = 1 from rfl]; omega)
  rw [show Lib.replaceAll (s.extract 1 (s.size - 1)).data.toList (⟨#[39, 39]⟩ : ByteArray).data.toList (⟨#[39]⟩ : ByteArray).data.toList = undbl (insideB s.data.toList) by rw [hin]; exact replace_undbl _] at hC
  obtain ⟨t, ht⟩ : ∃ t, undbl (insideB s.data.toList) = t := ⟨_, rfl⟩
  rw [ht] at hC ⊢
  have hsz : (⟨t.toArray⟩ : ByteArray).size = t.length := strU_size t
  obtain ⟨u, hu⟩ : ∃ u, (⟨t.toArray⟩ : ByteArray) = u := ⟨_, rfl⟩
  rw [hu] at hC hsz
  have HU := Lib.hid hu
  have HSZ := Lib.hid hsz
  clear hu hin hx hc hm ht hsz
  by_cases hl : 512 < t.length
  · rw [if_pos hl]
    have hl' : decide ((512 : Int) < (u.size : Int)) = true := by rw [HSZ.out]; simp; omega
    go_enter Tryd.func34, Tryd.ntmps34
    go_wp2_with (go_at_call 46; refine hC.mono ?_; rintro e w1 ⟨rfl, hb1⟩; have HN1 := Lib.hid (HN.out.kept hb1); have HB1 := Lib.hid (below_step (Below.refl _ _) hb1); obtain ⟨q0, q1, q2, q3⟩ := HN1.out.cells; obtain ⟨f0, f1, f2, f3⟩ := HN1.out.free; clear hb1)
    exact bodyPost_ret (word_results Tryd.results34 (HN1.out.set _ _ _ _) rfl rfl) rfl ⟨rfl, below_set4 HB1.out (Nat.le_refl _) _ _ _ _⟩
  · rw [if_neg hl]
    have hl' : decide ((512 : Int) < (u.size : Int)) = false := by rw [HSZ.out]; simp; omega
    go_enter Tryd.func34, Tryd.ntmps34
    go_wp2_with (go_at_call 46; refine hC.mono ?_; rintro e w1 ⟨rfl, hb1⟩; have HN1 := Lib.hid (HN.out.kept hb1); have HB1 := Lib.hid (below_step (Below.refl _ _) hb1); obtain ⟨q0, q1, q2, q3⟩ := HN1.out.cells; obtain ⟨f0, f1, f2, f3⟩ := HN1.out.free; clear hb1)
    exact bodyPost_ret (word_results Tryd.results34 (HN1.out.set _ _ _ _) rfl rfl) rfl ⟨by show _ = Ending.returned (.tuple #[.agg #[_, .string (strU t), _, _], _]); rw [show strU t = u from HU.out]; rfl, below_set4 HB1.out (Nat.le_refl _) _ _ _ _⟩
end Go.Proofs.YtfdjeaieddcgdaaDoor
