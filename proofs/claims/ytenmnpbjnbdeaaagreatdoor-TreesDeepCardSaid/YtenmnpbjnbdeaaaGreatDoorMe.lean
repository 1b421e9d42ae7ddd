/-
  WHAT IS PROVED: contracts of words: the word that a piece is. contract of words: the word that a piece is, whatever it is. contract of words: the pieces of a text, one by one (a range over a function).
-/
import Derived.Test.YtenmnpbjnbdeaaaGreatDoorMd
import Derived.RangeFuncNested
import Derived.RangeFuncBound
import Derived.RangeFuncCalls
import Derived.RangeFuncLeaves
import Derived.Shelf.Abstract
import Derived.Shelf.RegionOpen
import Derived.OwnWalkIn
import Derived.TacticsInMore
import Derived.LoopNIn
import Derived.LoopIn
namespace Go.Proofs.YtenmnpbjnbdeaaaGreatDoor
section
open Go.RowKit Go.ChangeShapes
set_option linter.unusedVariables false

def strU (l : List UInt8) : ByteArray := ⟨l.toArray⟩
theorem strU_data (l : List UInt8) : (strU l).data.toList = l := rfl
theorem strU_size (l : List UInt8) : (strU l).size = l.length := by simp [strU, ByteArray.size]
theorem strU_of (s : ByteArray) : strU s.data.toList = s := by cases s; rfl

/-! ### A block of four cells -/
theorem blk_cell {w : World} {B : Nat} {cs : Array Value} {t : TypeId} (h : w.heap[B]? = some (.cells cs t (0, 0))) (j : Nat) : w.cell? ⟨B, j, none⟩ = cs[j]? := by
  simp [World.cell?, h]
theorem blk_free {w : World} {B : Nat} {cs : Array Value} {t : TypeId} (h : w.heap[B]? = some (.cells cs t (0, 0))) (j : Nat) : w.frozen? ⟨B, j, none⟩ = false := by
  simp [World.frozen?, h]
theorem blk_set {w : World} {B j : Nat} {cs : Array Value} {t : TypeId} (v : Value) (h : w.heap[B]? = some (.cells cs t (0, 0))) : (w.setCell ⟨B, j, none⟩ v).heap[B]? = some (.cells (cs.modify j fun _ => v) t (0, 0)) := by
  obtain ⟨hlt, hk⟩ := Array.getElem?_eq_some_iff.1 h
  show (w.heap.modify B _)[B]? = _
  rw [Array.getElem?_eq_getElem (by rw [Array.size_modify]; exact hlt), Array.getElem_modify_self, hk]
  rfl
structure Four (w : World) (B : Nat) (t : TypeId) (a b c d : Value) : Prop where
  at_ : w.heap[B]? = some (.cells #[a, b, c, d] t (0, 0))
theorem Four.cells {w : World} {B : Nat} {t : TypeId} {a b c d : Value} (h : Four w B t a b c d) : w.cell? ⟨B, 0, none⟩ = some a ∧ w.cell? ⟨B, 1, none⟩ = some b ∧ w.cell? ⟨B, 2, none⟩ = some c ∧ w.cell? ⟨B, 3, none⟩ = some d :=
  ⟨blk_cell h.at_ 0, blk_cell h.at_ 1, blk_cell h.at_ 2, blk_cell h.at_ 3⟩
theorem Four.free {w : World} {B : Nat} {t : TypeId} {a b c d : Value} (h : Four w B t a b c d) : w.frozen? ⟨B, 0, none⟩ = false ∧ w.frozen? ⟨B, 1, none⟩ = false ∧ w.frozen? ⟨B, 2, none⟩ = false ∧ w.frozen? ⟨B, 3, none⟩ = false :=
  ⟨blk_free h.at_ 0, blk_free h.at_ 1, blk_free h.at_ 2, blk_free h.at_ 3⟩
theorem Four.set {w : World} {B : Nat} {t : TypeId} {a b c d : Value} (h : Four w B t a b c d) (a' b' c' d' : Value) : Four ((((w.setCell ⟨B, 0, none⟩ a').setCell ⟨B, 1, none⟩ b').setCell ⟨B, 2, none⟩ c').setCell ⟨B, 3, none⟩ d') B t a' b' c' d' :=
  ⟨blk_set d' (blk_set c' (blk_set b' (blk_set a' h.at_)))⟩
theorem Four.new (w : World) (t : TypeId) (a b c d : Value) : Four (w.alloc (.cells #[a, b, c, d] t)) w.heap.size t a b c d := ⟨heap_alloc_new w _⟩
theorem Four.kept {w w' : World} {B : Nat} {t : TypeId} {a b c d : Value} (h : Four w B t a b c d) (hb : Below w.heap.size w w') : Four w' B t a b c d :=
  ⟨(hb.block B (Array.getElem?_eq_some_iff.1 h.at_).1).trans h.at_⟩
theorem below_set4 {w W : World} {B : Nat} (h : Below w.heap.size w W) (hB : w.heap.size ≤ B) (a b c d : Value) : Below w.heap.size w ((((W.setCell ⟨B, 0, none⟩ a).setCell ⟨B, 1, none⟩ b).setCell ⟨B, 2, none⟩ c).setCell ⟨B, 3, none⟩ d) :=
  (((h.setCell (p := ⟨B, 0, none⟩) hB _).setCell (p := ⟨B, 1, none⟩) hB _).setCell (p := ⟨B, 2, none⟩) hB _).setCell (p := ⟨B, 3, none⟩) hB _

/-- a word, or none, as the Go functions hand it back; 'at' is 0 there -/
def gotA : Got → Value
  | .no _ => .agg #[.int .u8 0, .string ⟨#[]⟩, .int .i64 0, .int .i64 0]
  | .yes k s i => .agg #[.int .u8 (k : Int), .string (strU s), .int .i64 (i : Int), .int .i64 0]
def gotE : Got → Nat
  | .no e => e
  | .yes _ _ _ => 0
def GotR (g : Got) (w : World) (e : Ending) (w' : World) : Prop := e = .returned (.tuple #[gotA g, .int .i64 (gotE g : Nat)]) ∧ Below w.heap.size w w'

/-- what a function hands back whose first result lies in a block -/
theorem word_results {fn : Func} {tmps : Array Value} {W : World} {B : Nat} {a b c d v : Value} (hres : fn.results = #[.cell 2 90, .tmp 3]) (h : Four W B 90 a b c d)
    (h2 : tmps[2]? = some (.pointer (some ⟨B, 0, none⟩))) (h3 : tmps[3]? = some v) : (results fn tmps).run Tryz.prog W = .ok (.tuple #[.agg #[a, b, c, d], v]) W := by
  obtain ⟨c0, c1, c2, c3⟩ := h.cells
  simp [results, hres, h2, h3, go_sem, c0, c1, c2, c3]

theorem parse_cases (l : List UInt8) (hl : l ≠ []) (h : ∀ c ∈ l, digitB c = true) : Lib.parseIntB 64 l = if valB 0 l < 9223372036854775808 then .ok (valB 0 l : Int) else .range := by
  cases l with
  | nil => exact absurd rfl hl
  | cons c r =>
    have hc := h c List.mem_cons_self
    unfold digitB at hc
    simp only [Bool.and_eq_true, decide_eq_true_eq] at hc
    unfold Lib.parseIntB
    have e1 : ¬ (c.toNat = 43 ∨ c.toNat = 45) := by omega
    have e2 : ¬ c.toNat = 45 := by omega
    simp only [if_neg e1]
    unfold Lib.parseUintB
    rw [if_neg (by simp), show (2 : Nat) ^ 64 - 1 = 18446744073709551615 from rfl, uint_val _ rfl (c :: r) 0 h (by omega)]
    obtain ⟨v, hv⟩ : ∃ v, valB 0 (c :: r) = v := ⟨_, rfl⟩
    rw [hv]
    by_cases h1 : v ≤ 18446744073709551615
    · rw [if_pos h1]
      dsimp only
      by_cases h2 : v < 9223372036854775808
      · rw [if_neg (by simp [e2]; omega), if_neg (by simp [e2]), if_neg e2, if_pos h2]
      · rw [if_pos ⟨e2, by omega⟩, if_neg h2]
    · rw [if_neg h1, if_neg (by omega)]

set_option maxHeartbeats 1000000 in
theorem name_any (s : ByteArray) (w : World) (hs : s.size ≤ 4096) (h : ∀ c ∈ s.data.toList, follow c = true) :
    Calls Tryz.prog 78 #[.string s] w (GotR (if 16 < s.size then .no 4 else .yes 1 (Lib.toLowerA s.data.toList) 0) w) := by
  have hT := fun w => Tryz.strings_ToLower_ascii s w (by omega) (fun j b hj => by
    have := h b (List.mem_of_getElem? hj)
    revert this
    exact forall_u8 (fun c => follow c = true → c.toNat < 128) (by decide +kernel) b)
  have HB := Lib.hid (below_alloc w (.cells #[.int .u8 0, .string ⟨#[]⟩, .int .i64 0, .int .i64 0] 90))
  have HN := Lib.hid (Four.new w 90 (.int .u8 0) (.string ⟨#[]⟩) (.int .i64 0) (.int .i64 0))
  clear h
  by_cases hl : 16 < s.size
  · rw [if_pos hl]
    go_enter Tryz.func78, Tryz.ntmps78
    go_wp2_with fail
    exact bodyPost_ret (word_results Tryz.results78 HN.out rfl rfl) rfl ⟨rfl, HB.out⟩
  · rw [if_neg hl]
    go_enter Tryz.func78, Tryz.ntmps78
    go_wp2_with (go_at_call 44; refine (hT _).mono ?_; rintro e w1 ⟨rfl, hb1⟩; have HN1 := Lib.hid (HN.out.kept hb1); have HB1 := Lib.hid (below_step (Below.refl _ _) hb1); obtain ⟨q0, q1, q2, q3⟩ := HN1.out.cells; obtain ⟨f0, f1, f2, f3⟩ := HN1.out.free; clear hb1)
    exact bodyPost_ret (word_results Tryz.results78 (HN1.out.set _ _ _ _) rfl rfl) rfl ⟨rfl, below_set4 HB1.out (Nat.le_refl _) _ _ _ _⟩

theorem below_or {w w' : World} (h : w' = w ∨ ∃ t, w' = Lib.bytesWorld w 5 t) : Below w.heap.size w w' := by
  rcases h with rfl | ⟨t, rfl⟩
  · exact Below.refl _ _
  · exact Lib.bytesWorld_below _ _ _

set_option maxHeartbeats 1000000 in
theorem number_any (s : ByteArray) (w : World) (hw : Wo w) (hs : s.size ≤ 4096) (h0 : 0 < s.size) (h : ∀ c ∈ s.data.toList, digitB c = true) :
    Calls Tryz.prog 80 #[.string s] w (GotR (match numB s.data.toList with | none => .no 12 | some n => .yes 2 [] n) w) := by
  have hne : s.data.toList ≠ [] := fun e => by have := str_len s; rw [e] at this; simp at this; omega
  have hval := numB_val _ hne h
  have HB := Lib.hid (below_alloc w (.cells #[.int .u8 0, .string ⟨#[]⟩, .int .i64 0, .int .i64 0] 90))
  have HN := Lib.hid (Four.new w 90 (.int .u8 0) (.string ⟨#[]⟩) (.int .i64 0) (.int .i64 0))
  have hW := hw.kept HB.out
  obtain ⟨ev, hev, hk⟩ := hW.range
  obtain ⟨v, hv⟩ : ∃ v, valB 0 s.data.toList = v := ⟨_, rfl⟩
  rw [hv] at hval
  by_cases hlt : v < 9223372036854775808
  · rw [if_pos hlt] at hval
    have hp : Lib.parseIntB 64 s.data.toList = .ok (v : Int) := by rw [parse_cases _ hne h, hv, if_pos hlt]
    rw [hval]
    dsimp only
    have hC := Tryz.strconv_ParseInt_10_at64_ok s (by omega) v hp
    clear hval hv hp
    go_enter Tryz.func80, Tryz.ntmps80
    go_wp2_with (go_at_call 124; refine (hC _).mono ?_; rintro e w1 ⟨rfl, hb0⟩; have hb1 := below_or hb0; clear hb0; have HN1 := Lib.hid (HN.out.kept hb1); have HB1 := Lib.hid (below_step (Below.refl _ _) hb1); obtain ⟨q0, q1, q2, q3⟩ := HN1.out.cells; obtain ⟨f0, f1, f2, f3⟩ := HN1.out.free; clear hb1)
    exact bodyPost_ret (word_results Tryz.results80 (HN1.out.set _ _ _ _) rfl rfl) rfl ⟨rfl, below_set4 HB1.out (Nat.le_refl _) _ _ _ _⟩
  · rw [if_neg hlt] at hval
    have hp : Lib.parseIntB 64 s.data.toList = .range := by rw [parse_cases _ hne h, hv, if_neg hlt]
    rw [hval]
    dsimp only
    have hC := Tryz.strconv_ParseInt_10_at64_range s (by omega) hp ev _ hev hk
    clear hval hv hp hev hk
    go_enter Tryz.func80, Tryz.ntmps80
    go_wp2_with (go_at_call 124; refine hC.mono ?_; rintro e w1 ⟨N, rfl, _, _, hb1⟩; have HN1 := Lib.hid (HN.out.kept hb1); have HB1 := Lib.hid (below_step (Below.refl _ _) hb1); obtain ⟨q0, q1, q2, q3⟩ := HN1.out.cells; obtain ⟨f0, f1, f2, f3⟩ := HN1.out.free; clear hb1)
    exact bodyPost_ret (word_results Tryz.results80 (HN1.out.set _ _ _ _) rfl rfl) rfl ⟨rfl, below_set4 HB1.out (Nat.le_refl _) _ _ _ _⟩

set_option maxHeartbeats 1000000 in
theorem text_piece (s : ByteArray) (w : World) (hw : Wo w) (hs : s.size ≤ 4096) (h0 : 2 ≤ s.size) :
    Calls Tryz.prog 82 #[.string s] w (GotR (if 512 < (undbl (insideB s.data.toList)).length then .no 3 else .yes 3 (undbl (insideB s.data.toList)) 0) w) := by
  have HB := Lib.hid (below_alloc w (.cells #[.int .u8 0, .string ⟨#[]⟩, .int .i64 0, .int .i64 0] 90))
  have HN := Lib.hid (Four.new w 90 (.int .u8 0) (.string ⟨#[]⟩) (.int .i64 0) (.int .i64 0))
  have hW := hw.kept HB.out
  obtain ⟨m, hm⟩ := hW.max
  have hin : (s.extract 1 (s.size - 1)).data.toList = insideB s.data.toList := by
    rw [Lib.extract_data]; unfold insideB; rw [str_len]; congr 1
  have hx : (s.extract 1 (s.size - 1)).size ≤ 4096 := by rw [Lib.size_eq, hin]; unfold insideB; simp; have := str_len s; simp at this; omega
  have hc := Lib.countB_le ⟨#[39, 39]⟩ (by decide) _ (s.extract 1 (s.size - 1)) (Nat.le_refl _)
  have hC := Tryz.strings_ReplaceAll (s.extract 1 (s.size - 1)) ⟨#[39, 39]⟩ ⟨#[39]⟩ m _ (by omega) hm (by decide) (by rw [show (⟨#[39]⟩ : ByteArray).size = 1 from rfl]; omega)
  rw [show Lib.replaceAll (s.extract 1 (s.size - 1)).data.toList (⟨#[39, 39]⟩ : ByteArray).data.toList (⟨#[39]⟩ : ByteArray).data.toList = undbl (insideB s.data.toList) by rw [hin]; exact replace_undbl _] at hC
  obtain ⟨t, ht⟩ : ∃ t, undbl (insideB s.data.toList) = t := ⟨_, rfl⟩
  rw [ht] at hC ⊢
  have hsz : (⟨t.toArray⟩ : ByteArray).size = t.length := strU_size t
  obtain ⟨u, hu⟩ : ∃ u, (⟨t.toArray⟩ : ByteArray) = u := ⟨_, rfl⟩
  rw [hu] at hC hsz
  have HU := Lib.hid hu
  have HSZ := Lib.hid hsz
  clear hu hin hx hc hm ht hsz
  by_cases hl : 512 < t.length
  · rw [if_pos hl]
    have hl' : decide ((512 : Int) < (u.size : Int)) = true := by rw [HSZ.out]; simp; omega
    go_enter Tryz.func82, Tryz.ntmps82
    go_wp2_with (go_at_call 126; refine hC.mono ?_; rintro e w1 ⟨rfl, hb1⟩; have HN1 := Lib.hid (HN.out.kept hb1); have HB1 := Lib.hid (below_step (Below.refl _ _) hb1); obtain ⟨q0, q1, q2, q3⟩ := HN1.out.cells; obtain ⟨f0, f1, f2, f3⟩ := HN1.out.free; clear hb1)
    exact bodyPost_ret (word_results Tryz.results82 (HN1.out.set _ _ _ _) rfl rfl) rfl ⟨rfl, below_set4 HB1.out (Nat.le_refl _) _ _ _ _⟩
  · rw [if_neg hl]
    have hl' : decide ((512 : Int) < (u.size : Int)) = false := by rw [HSZ.out]; simp; omega
    go_enter Tryz.func82, Tryz.ntmps82
    go_wp2_with (go_at_call 126; refine hC.mono ?_; rintro e w1 ⟨rfl, hb1⟩; have HN1 := Lib.hid (HN.out.kept hb1); have HB1 := Lib.hid (below_step (Below.refl _ _) hb1); obtain ⟨q0, q1, q2, q3⟩ := HN1.out.cells; obtain ⟨f0, f1, f2, f3⟩ := HN1.out.free; clear hb1)
    exact bodyPost_ret (word_results Tryz.results82 (HN1.out.set _ _ _ _) rfl rfl) rfl ⟨by show _ = Ending.returned (.tuple #[.agg #[_, .string (strU t), _, _], _]); rw [show strU t = u from HU.out]; rfl, below_set4 HB1.out (Nat.le_refl _) _ _ _ _⟩
end
section
open Go.RowKit Go.ChangeShapes
set_option linter.unusedVariables false

theorem size_zero {s : ByteArray} (h : s.size = 0) : s = ⟨#[]⟩ := by
  obtain ⟨⟨l⟩⟩ := s
  have : l.length = 0 := h
  rw [List.length_eq_zero_iff.1 this]

set_option maxHeartbeats 1000000 in
theorem word_name_long (s : ByteArray) (w : World) (hw : Wo w) (hs : s.size ≤ 4096) (h0 : 0 < s.size) (hl : letter s[0] = true) (hall : ∀ c ∈ s.data.toList, follow c = true) (h : 16 < s.size) :
    Calls Tryz.prog 39 #[.string s] w (GotR (.no 4) w) := by
  have HB := Lib.hid (below_alloc w (.cells #[.int .u8 0, .string ⟨#[]⟩, .int .i64 0, .int .i64 0] 90))
  have HN := Lib.hid (Four.new w 90 (.int .u8 0) (.string ⟨#[]⟩) (.int .i64 0) (.int .i64 0))
  have hW := hw.kept HB.out
  have hne : s.toList = [] → False := fun e => by rw [Lib.toList_data] at e; have := str_len s; rw [e] at this; simp at this; omega
  have hemp : s.toList.isEmpty = false := by cases h : s.toList with
    | nil => exact (hne h).elim
    | cons c r => rfl
  have hC := (show Calls Tryz.prog 78 #[.string s] (w.alloc (.cells #[.int .u8 0, .string ⟨#[]⟩, .int .i64 0, .int .i64 0] 90)) (fun e w' => e = .returned (.tuple #[.agg #[.int .u8 0, .string ⟨#[]⟩, .int .i64 0, .int .i64 0], .int .i64 4]) ∧ Below (w.alloc (.cells #[.int .u8 0, .string ⟨#[]⟩, .int .i64 0, .int .i64 0] 90)).heap.size (w.alloc (.cells #[.int .u8 0, .string ⟨#[]⟩, .int .i64 0, .int .i64 0] 90)) w') by have := name_any s (w.alloc (.cells #[.int .u8 0, .string ⟨#[]⟩, .int .i64 0, .int .i64 0] 90)) hs hall; rw [if_pos h] at this; exact this)
  clear hne hW hall
  go_enter Tryz.func39, Tryz.ntmps39
  go_wp2_with (first | (go_at_call 77; refine (letter_any s[0] _).mono ?_; rw [hl]; rintro e w' ⟨rfl, rfl⟩) | (go_at_call 78; refine hC.mono ?_; rintro e w1 ⟨rfl, hb1⟩; have HN1 := Lib.hid (HN.out.kept hb1); have HB1 := Lib.hid (below_step (Below.refl _ _) hb1); obtain ⟨q0, q1, q2, q3⟩ := HN1.out.cells; obtain ⟨f0, f1, f2, f3⟩ := HN1.out.free; clear hb1))
  exact bodyPost_ret (word_results Tryz.results39 (HN1.out.set _ _ _ _) rfl rfl) rfl ⟨rfl, below_set4 HB1.out (Nat.le_refl _) _ _ _ _⟩

set_option maxHeartbeats 1000000 in
theorem word_name (s : ByteArray) (w : World) (hw : Wo w) (hs : s.size ≤ 4096) (h0 : 0 < s.size) (hl : letter s[0] = true) (hall : ∀ c ∈ s.data.toList, follow c = true) (h : ¬ 16 < s.size) :
    Calls Tryz.prog 39 #[.string s] w (GotR (.yes 1 (Lib.toLowerA s.data.toList) 0) w) := by
  have HB := Lib.hid (below_alloc w (.cells #[.int .u8 0, .string ⟨#[]⟩, .int .i64 0, .int .i64 0] 90))
  have HN := Lib.hid (Four.new w 90 (.int .u8 0) (.string ⟨#[]⟩) (.int .i64 0) (.int .i64 0))
  have hW := hw.kept HB.out
  have hne : s.toList = [] → False := fun e => by rw [Lib.toList_data] at e; have := str_len s; rw [e] at this; simp at this; omega
  have hemp : s.toList.isEmpty = false := by cases h : s.toList with
    | nil => exact (hne h).elim
    | cons c r => rfl
  have hC := (show Calls Tryz.prog 78 #[.string s] (w.alloc (.cells #[.int .u8 0, .string ⟨#[]⟩, .int .i64 0, .int .i64 0] 90)) (fun e w' => e = .returned (.tuple #[.agg #[.int .u8 1, .string (strU (Lib.toLowerA s.data.toList)), .int .i64 0, .int .i64 0], .int .i64 0]) ∧ Below (w.alloc (.cells #[.int .u8 0, .string ⟨#[]⟩, .int .i64 0, .int .i64 0] 90)).heap.size (w.alloc (.cells #[.int .u8 0, .string ⟨#[]⟩, .int .i64 0, .int .i64 0] 90)) w') by have := name_any s (w.alloc (.cells #[.int .u8 0, .string ⟨#[]⟩, .int .i64 0, .int .i64 0] 90)) hs hall; rw [if_neg h] at this; exact this)
  clear hne hW hall
  go_enter Tryz.func39, Tryz.ntmps39
  go_wp2_with (first | (go_at_call 77; refine (letter_any s[0] _).mono ?_; rw [hl]; rintro e w' ⟨rfl, rfl⟩) | (go_at_call 78; refine hC.mono ?_; rintro e w1 ⟨rfl, hb1⟩; have HN1 := Lib.hid (HN.out.kept hb1); have HB1 := Lib.hid (below_step (Below.refl _ _) hb1); obtain ⟨q0, q1, q2, q3⟩ := HN1.out.cells; obtain ⟨f0, f1, f2, f3⟩ := HN1.out.free; clear hb1))
  exact bodyPost_ret (word_results Tryz.results39 (HN1.out.set _ _ _ _) rfl rfl) rfl ⟨rfl, below_set4 HB1.out (Nat.le_refl _) _ _ _ _⟩

set_option maxHeartbeats 1000000 in
theorem word_num_long (s : ByteArray) (w : World) (hw : Wo w) (hs : s.size ≤ 4096) (h0 : 0 < s.size) (hl : letter s[0] = false) (hd : digitB s[0] = true) (hall : ∀ c ∈ s.data.toList, digitB c = true) (h : numB s.data.toList = none) :
    Calls Tryz.prog 39 #[.string s] w (GotR (.no 12) w) := by
  have HB := Lib.hid (below_alloc w (.cells #[.int .u8 0, .string ⟨#[]⟩, .int .i64 0, .int .i64 0] 90))
  have HN := Lib.hid (Four.new w 90 (.int .u8 0) (.string ⟨#[]⟩) (.int .i64 0) (.int .i64 0))
  have hW := hw.kept HB.out
  have hne : s.toList = [] → False := fun e => by rw [Lib.toList_data] at e; have := str_len s; rw [e] at this; simp at this; omega
  have hemp : s.toList.isEmpty = false := by cases h : s.toList with
    | nil => exact (hne h).elim
    | cons c r => rfl
  have hC := (show Calls Tryz.prog 80 #[.string s] (w.alloc (.cells #[.int .u8 0, .string ⟨#[]⟩, .int .i64 0, .int .i64 0] 90)) (fun e w' => e = .returned (.tuple #[.agg #[.int .u8 0, .string ⟨#[]⟩, .int .i64 0, .int .i64 0], .int .i64 12]) ∧ Below (w.alloc (.cells #[.int .u8 0, .string ⟨#[]⟩, .int .i64 0, .int .i64 0] 90)).heap.size (w.alloc (.cells #[.int .u8 0, .string ⟨#[]⟩, .int .i64 0, .int .i64 0] 90)) w') by have := number_any s (w.alloc (.cells #[.int .u8 0, .string ⟨#[]⟩, .int .i64 0, .int .i64 0] 90)) hW hs h0 hall; rw [h] at this; exact this)
  clear hne hW hall
  go_enter Tryz.func39, Tryz.ntmps39
  go_wp2_with (first | (go_at_call 77; refine (letter_any s[0] _).mono ?_; rw [hl]; rintro e w' ⟨rfl, rfl⟩) | (go_at_call 79; refine (digit_any s[0] _).mono ?_; rw [hd]; rintro e w' ⟨rfl, rfl⟩) | (go_at_call 80; refine hC.mono ?_; rintro e w1 ⟨rfl, hb1⟩; have HN1 := Lib.hid (HN.out.kept hb1); have HB1 := Lib.hid (below_step (Below.refl _ _) hb1); obtain ⟨q0, q1, q2, q3⟩ := HN1.out.cells; obtain ⟨f0, f1, f2, f3⟩ := HN1.out.free; clear hb1))
  exact bodyPost_ret (word_results Tryz.results39 (HN1.out.set _ _ _ _) rfl rfl) rfl ⟨rfl, below_set4 HB1.out (Nat.le_refl _) _ _ _ _⟩

set_option maxHeartbeats 1000000 in
theorem word_num (s : ByteArray) (w : World) (hw : Wo w) (hs : s.size ≤ 4096) (h0 : 0 < s.size) (hl : letter s[0] = false) (hd : digitB s[0] = true) (n : Nat) (hall : ∀ c ∈ s.data.toList, digitB c = true) (h : numB s.data.toList = some n) :
    Calls Tryz.prog 39 #[.string s] w (GotR (.yes 2 [] n) w) := by
  have HB := Lib.hid (below_alloc w (.cells #[.int .u8 0, .string ⟨#[]⟩, .int .i64 0, .int .i64 0] 90))
  have HN := Lib.hid (Four.new w 90 (.int .u8 0) (.string ⟨#[]⟩) (.int .i64 0) (.int .i64 0))
  have hW := hw.kept HB.out
  have hne : s.toList = [] → False := fun e => by rw [Lib.toList_data] at e; have := str_len s; rw [e] at this; simp at this; omega
  have hemp : s.toList.isEmpty = false := by cases h : s.toList with
    | nil => exact (hne h).elim
    | cons c r => rfl
  have hC := (show Calls Tryz.prog 80 #[.string s] (w.alloc (.cells #[.int .u8 0, .string ⟨#[]⟩, .int .i64 0, .int .i64 0] 90)) (fun e w' => e = .returned (.tuple #[.agg #[.int .u8 2, .string (strU []), .int .i64 (n : Int), .int .i64 0], .int .i64 0]) ∧ Below (w.alloc (.cells #[.int .u8 0, .string ⟨#[]⟩, .int .i64 0, .int .i64 0] 90)).heap.size (w.alloc (.cells #[.int .u8 0, .string ⟨#[]⟩, .int .i64 0, .int .i64 0] 90)) w') by have := number_any s (w.alloc (.cells #[.int .u8 0, .string ⟨#[]⟩, .int .i64 0, .int .i64 0] 90)) hW hs h0 hall; rw [h] at this; exact this)
  clear hne hW hall
  go_enter Tryz.func39, Tryz.ntmps39
  go_wp2_with (first | (go_at_call 77; refine (letter_any s[0] _).mono ?_; rw [hl]; rintro e w' ⟨rfl, rfl⟩) | (go_at_call 79; refine (digit_any s[0] _).mono ?_; rw [hd]; rintro e w' ⟨rfl, rfl⟩) | (go_at_call 80; refine hC.mono ?_; rintro e w1 ⟨rfl, hb1⟩; have HN1 := Lib.hid (HN.out.kept hb1); have HB1 := Lib.hid (below_step (Below.refl _ _) hb1); obtain ⟨q0, q1, q2, q3⟩ := HN1.out.cells; obtain ⟨f0, f1, f2, f3⟩ := HN1.out.free; clear hb1))
  exact bodyPost_ret (word_results Tryz.results39 (HN1.out.set _ _ _ _) rfl rfl) rfl ⟨rfl, below_set4 HB1.out (Nat.le_refl _) _ _ _ _⟩

set_option maxHeartbeats 1000000 in
theorem word_text_long (s : ByteArray) (w : World) (hw : Wo w) (hs : s.size ≤ 4096) (h0 : 0 < s.size) (hl : letter s[0] = false) (hd : digitB s[0] = false) (hq : Lib.hasPrefix s.data.toList (⟨#[39]⟩ : ByteArray).data.toList = true) (hall : 2 ≤ s.size) (h : 512 < (undbl (insideB s.data.toList)).length) :
    Calls Tryz.prog 39 #[.string s] w (GotR (.no 3) w) := by
  have HB := Lib.hid (below_alloc w (.cells #[.int .u8 0, .string ⟨#[]⟩, .int .i64 0, .int .i64 0] 90))
  have HN := Lib.hid (Four.new w 90 (.int .u8 0) (.string ⟨#[]⟩) (.int .i64 0) (.int .i64 0))
  have hW := hw.kept HB.out
  have hne : s.toList = [] → False := fun e => by rw [Lib.toList_data] at e; have := str_len s; rw [e] at this; simp at this; omega
  have hemp : s.toList.isEmpty = false := by cases h : s.toList with
    | nil => exact (hne h).elim
    | cons c r => rfl
  have hC := (show Calls Tryz.prog 82 #[.string s] (w.alloc (.cells #[.int .u8 0, .string ⟨#[]⟩, .int .i64 0, .int .i64 0] 90)) (fun e w' => e = .returned (.tuple #[.agg #[.int .u8 0, .string ⟨#[]⟩, .int .i64 0, .int .i64 0], .int .i64 3]) ∧ Below (w.alloc (.cells #[.int .u8 0, .string ⟨#[]⟩, .int .i64 0, .int .i64 0] 90)).heap.size (w.alloc (.cells #[.int .u8 0, .string ⟨#[]⟩, .int .i64 0, .int .i64 0] 90)) w') by have := text_piece s (w.alloc (.cells #[.int .u8 0, .string ⟨#[]⟩, .int .i64 0, .int .i64 0] 90)) hW hs hall; rw [if_pos h] at this; exact this)
  clear hne hW hall
  go_enter Tryz.func39, Tryz.ntmps39
  go_wp2_with (first | (go_at_call 77; refine (letter_any s[0] _).mono ?_; rw [hl]; rintro e w' ⟨rfl, rfl⟩) | (go_at_call 79; refine (digit_any s[0] _).mono ?_; rw [hd]; rintro e w' ⟨rfl, rfl⟩) | (go_at_call 81; refine (prefix_any s ⟨#[39]⟩ _ _ hq).mono ?_; rintro e w' ⟨rfl, rfl⟩) | (go_at_call 82; refine hC.mono ?_; rintro e w1 ⟨rfl, hb1⟩; have HN1 := Lib.hid (HN.out.kept hb1); have HB1 := Lib.hid (below_step (Below.refl _ _) hb1); obtain ⟨q0, q1, q2, q3⟩ := HN1.out.cells; obtain ⟨f0, f1, f2, f3⟩ := HN1.out.free; clear hb1))
  exact bodyPost_ret (word_results Tryz.results39 (HN1.out.set _ _ _ _) rfl rfl) rfl ⟨rfl, below_set4 HB1.out (Nat.le_refl _) _ _ _ _⟩

set_option maxHeartbeats 1000000 in
theorem word_text (s : ByteArray) (w : World) (hw : Wo w) (hs : s.size ≤ 4096) (h0 : 0 < s.size) (hl : letter s[0] = false) (hd : digitB s[0] = false) (hq : Lib.hasPrefix s.data.toList (⟨#[39]⟩ : ByteArray).data.toList = true) (hall : 2 ≤ s.size) (h : ¬ 512 < (undbl (insideB s.data.toList)).length) :
    Calls Tryz.prog 39 #[.string s] w (GotR (.yes 3 (undbl (insideB s.data.toList)) 0) w) := by
  have HB := Lib.hid (below_alloc w (.cells #[.int .u8 0, .string ⟨#[]⟩, .int .i64 0, .int .i64 0] 90))
  have HN := Lib.hid (Four.new w 90 (.int .u8 0) (.string ⟨#[]⟩) (.int .i64 0) (.int .i64 0))
  have hW := hw.kept HB.out
  have hne : s.toList = [] → False := fun e => by rw [Lib.toList_data] at e; have := str_len s; rw [e] at this; simp at this; omega
  have hemp : s.toList.isEmpty = false := by cases h : s.toList with
    | nil => exact (hne h).elim
    | cons c r => rfl
  have hC := (show Calls Tryz.prog 82 #[.string s] (w.alloc (.cells #[.int .u8 0, .string ⟨#[]⟩, .int .i64 0, .int .i64 0] 90)) (fun e w' => e = .returned (.tuple #[.agg #[.int .u8 3, .string (strU (undbl (insideB s.data.toList))), .int .i64 0, .int .i64 0], .int .i64 0]) ∧ Below (w.alloc (.cells #[.int .u8 0, .string ⟨#[]⟩, .int .i64 0, .int .i64 0] 90)).heap.size (w.alloc (.cells #[.int .u8 0, .string ⟨#[]⟩, .int .i64 0, .int .i64 0] 90)) w') by have := text_piece s (w.alloc (.cells #[.int .u8 0, .string ⟨#[]⟩, .int .i64 0, .int .i64 0] 90)) hW hs hall; rw [if_neg h] at this; exact this)
  clear hne hW hall
  go_enter Tryz.func39, Tryz.ntmps39
  go_wp2_with (first | (go_at_call 77; refine (letter_any s[0] _).mono ?_; rw [hl]; rintro e w' ⟨rfl, rfl⟩) | (go_at_call 79; refine (digit_any s[0] _).mono ?_; rw [hd]; rintro e w' ⟨rfl, rfl⟩) | (go_at_call 81; refine (prefix_any s ⟨#[39]⟩ _ _ hq).mono ?_; rintro e w' ⟨rfl, rfl⟩) | (go_at_call 82; refine hC.mono ?_; rintro e w1 ⟨rfl, hb1⟩; have HN1 := Lib.hid (HN.out.kept hb1); have HB1 := Lib.hid (below_step (Below.refl _ _) hb1); obtain ⟨q0, q1, q2, q3⟩ := HN1.out.cells; obtain ⟨f0, f1, f2, f3⟩ := HN1.out.free; clear hb1))
  exact bodyPost_ret (word_results Tryz.results39 (HN1.out.set _ _ _ _) rfl rfl) rfl ⟨rfl, below_set4 HB1.out (Nat.le_refl _) _ _ _ _⟩

set_option maxHeartbeats 1000000 in
theorem word_sign (s : ByteArray) (w : World) (hs : s.size ≤ 4096) (h0 : 0 < s.size) (hl : letter s[0] = false) (hd : digitB s[0] = false) (hq : Lib.hasPrefix s.data.toList (⟨#[39]⟩ : ByteArray).data.toList = false) :
    Calls Tryz.prog 39 #[.string s] w (GotR (.yes 4 s.data.toList 0) w) := by
  have hne : s.toList = [] → False := fun e => by rw [Lib.toList_data] at e; have := str_len s; rw [e] at this; simp at this; omega
  have hemp : s.toList.isEmpty = false := by cases h : s.toList with
    | nil => exact (hne h).elim
    | cons c r => rfl
  clear hne
  go_enter Tryz.func39, Tryz.ntmps39
  go_wp2_with (first | (go_at_call 77; refine (letter_any s[0] _).mono ?_; rw [hl]; rintro e w' ⟨rfl, rfl⟩) | (go_at_call 79; refine (digit_any s[0] _).mono ?_; rw [hd]; rintro e w' ⟨rfl, rfl⟩) | (go_at_call 81; refine (prefix_any s ⟨#[39]⟩ _ _ hq).mono ?_; rintro e w' ⟨rfl, rfl⟩))
  refine bodyPost_ret (word_results Tryz.results39 (Four.new w _ (.int .u8 4) (.string s) (.int .i64 0) (.int .i64 0)) rfl rfl) rfl ⟨?_, below_alloc w _⟩
  show _ = Ending.returned (.tuple #[.agg #[_, .string (strU s.data.toList), _, _], _])
  rw [strU_of]; rfl

theorem word_empty (w : World) : Calls Tryz.prog 39 #[.string ⟨#[]⟩] w (GotR (.no 4) w) := by
  have HB := Lib.hid (below_alloc w (.cells #[.int .u8 0, .string ⟨#[]⟩, .int .i64 0, .int .i64 0] 90))
  have HN := Lib.hid (Four.new w 90 (.int .u8 0) (.string ⟨#[]⟩) (.int .i64 0) (.int .i64 0))
  go_enter Tryz.func39, Tryz.ntmps39
  go_wp2_with fail
  exact bodyPost_ret (word_results Tryz.results39 HN.out rfl rfl) rfl ⟨rfl, HB.out⟩

theorem word_any (s : ByteArray) (w : World) (hw : Wo w) (hs : s.size ≤ 4096) (hp : WholeP s.data.toList) :
    Calls Tryz.prog 39 #[.string s] w (GotR (wordB s.data.toList) w) := by
  rcases Nat.eq_zero_or_pos s.size with h | h0
  · rw [size_zero h]; exact word_empty w
  have hcons := str_cons s h0
  have hlen := str_len s
  have hB : wordB s.data.toList = if letter s[0] then (if 16 < s.data.toList.length then .no 4 else .yes 1 (Lib.toLowerA s.data.toList) 0)
    else if digitB s[0] then (match numB s.data.toList with | none => .no 12 | some n => .yes 2 [] n)
    else if s[0] = 39 then (if 512 < (undbl (insideB s.data.toList)).length then .no 3 else .yes 3 (undbl (insideB s.data.toList)) 0)
    else .yes 4 s.data.toList 0 := by rw [hcons]; rfl
  rw [hB, hlen]
  cases hl : letter s[0] with
  | true =>
    have hall := hp.name _ _ hcons hl
    rw [if_pos rfl]
    by_cases h : 16 < s.size
    · rw [if_pos h]; exact word_name_long s w hw hs h0 hl hall h
    · rw [if_neg h]; exact word_name s w hw hs h0 hl hall h
  | false =>
    rw [if_neg (by simp)]
    cases hd : digitB s[0] with
    | true =>
      have hall := hp.num _ _ hcons hd
      rw [if_pos rfl]
      cases h : numB s.data.toList with
      | none => exact word_num_long s w hw hs h0 hl hd hall h
      | some n => exact word_num s w hw hs h0 hl hd n hall h
    | false =>
      rw [if_neg (by simp)]
      have hq : Lib.hasPrefix s.data.toList (⟨#[39]⟩ : ByteArray).data.toList = decide (s[0] = 39) := by rw [hcons]; exact has_first _ _
      by_cases h39 : s[0] = 39
      · rw [if_pos h39]
        rw [decide_eq_true h39] at hq
        have h2 : 2 ≤ s.size := by
          rw [h39] at hcons
          have := hp.text _ hcons
          omega
        by_cases h : 512 < (undbl (insideB s.data.toList)).length
        · rw [if_pos h]; exact word_text_long s w hw hs h0 hl hd hq h2 h
        · rw [if_neg h]; exact word_text s w hw hs h0 hl hd hq h2 h
      · rw [if_neg h39]
        rw [decide_eq_false h39] at hq
        exact word_sign s w hs h0 hl hd hq
end
section
open Go.RowKit Go.Shelf
attribute [local go_sem] Oper.semAt_some
set_option linter.unusedVariables false

/-- what the rounds keep: all that was there when the call began, and the box of the text -/
structure KeepsW (B Bn : Nat) (W W' : World) : Prop where
  below : Below B W W'
  size : W.heap.size ≤ W'.heap.size
  box : W'.heap[Bn]? = W.heap[Bn]?
theorem keepsW_t {B Bn : Nat} {X Y Z : World} (h : KeepsW B Bn X Y) (k : KeepsW B Bn Y Z) : KeepsW B Bn X Z := ⟨h.below.trans k.below, Nat.le_trans h.size k.size, k.box.trans h.box⟩
theorem keepsW_b {B Bn : Nat} {w : World} (hB : B ≤ w.heap.size) (hBn : Bn < w.heap.size) (W : World) (l : Nat) (o o' : Obj) (hl : w.heap.size ≤ l) (h : W.heap[l]? = some o) (hc : o.isCells = false) (hw : o.isWalk = false) : KeepsW B Bn W (W.putObj l o') :=
  ⟨belowK_b hB W l o o' hl h hc hw, by simp, World.putObj_heap_other (by omega)⟩

theorem pieces_n (s : ByteArray) (w : World) : Calls Tryz.prog 38 #[.string s] w fun e w' => e = .returned (.func (.func 74) #[] #[.pointer (some ⟨w.heap.size, 0, none⟩)]) ∧ w.alloc (.cells #[.string s] 9) = w' := by
  go_enter Tryz.func38, Tryz.ntmps38
  go_wp2
  go_ret
  exact ⟨rfl, rfl⟩

/-- what the loop's body is handed -/
def encW (s : ByteArray) (x : Nat) : Array Value := #[.int .i64 (x : Int), .string (s.extract x (x + extentB (s.data.toList.drop x)))]

/-- where the reading of pieces is -/
def PcRel (w : World) (n₀ Bn : Nat) (s : ByteArray) (J : List Nat → World → Prop) (a : Value) (wr : World) : Prop :=
  ∃ (at' k : Nat) (pre : List Nat), a = .int .i64 at' ∧ Hid (J pre wr) ∧ Hid (pre ++ piecesF s.data.toList k at' = piecesB s.data.toList) ∧ at' ≤ s.size ∧ s.size - at' < k ∧ Hid (Below n₀ w wr) ∧ Hid (wr.heap[Bn]? = some (.cells #[.string s] 9 (0, 0))) ∧ n₀ ≤ wr.heap.size

set_option maxRecDepth 100000 in
set_option maxHeartbeats 4000000 in
theorem pieces_stop (m : Nat) (hm : 3 ≤ m) (n₀ Bn : Nat) (s : ByteArray) (w : World) (hn : s.size ≤ 1073741000) (hn₀ : n₀ ≤ w.heap.size) (hbn : w.heap[Bn]? = some (.cells #[.string s] 9 (0, 0))) (hw : Wo w) (hlow : ∀ wk, Below n₀ w wk → Wo wk) :
    SeqStopsK Fence.wide m Tryz.prog 74 #[.pointer (some ⟨Bn, 0, none⟩)] (encW s) (KeepsW n₀ Bn) (fun xs => xs = piecesB s.data.toList) (fun pre => ∃ q, pre ++ q = piecesB s.data.toList) (piecesB s.data.toList).length w := by
  intro ll J Jx W hW hJ hJx hY h0
  have hbW := (hW.block Bn (Array.getElem?_eq_some_iff.1 hbn).1).trans hbn
  have hbC : W.cell? ⟨Bn, 0, none⟩ = some (.string s) := blk_cell hbW 0
  refine callsIn_of_wp Tryz.func74 rfl trivial ?_ rfl
  simp only [Tryz.ntmps74, List.size_toArray, List.length_cons, List.length_nil, Nat.reduceAdd, Nat.reduceSub, Array.replicate_succ, Array.replicate_zero, List.push_toArray, List.append_toArray, List.nil_append, List.cons_append]
  have HBW := Lib.hid hbW
  have HW := Lib.hid (hW.mono hn₀)
  have HLOW := Lib.hid hlow
  have hsW := hW.size
  clear hbn hW hbW hlow
  gi_wp2_with fail
  refine ⟨trivial, fun _ => by omega, callsIn_wide.2 ((run_blank s W (by omega)).mono ?_)⟩
  rintro e w1 ⟨rfl, rfl⟩
  gi_wp2_with fail
  have hr := runB_le blank s.data.toList
  rw [str_len] at hr
  gi_loopw [3] (fun a wr => PcRel w n₀ Bn s J a wr) (fun a _ => s.size + 1 - (intOf a).toNat)
  case atStart =>
    refine ⟨runB blank s.data.toList, s.data.toList.length + 1, [], rfl, Lib.hid h0, Lib.hid rfl, hr, by rw [str_len]; omega, Lib.hid HW.out, Lib.hid HBW.out, by omega⟩
  case round =>
    obtain ⟨at', k, pre, rfl, hJs, hpl, hat, hk, hB, hBn, hsz⟩ := hrel
    obtain ⟨k, rfl⟩ : ∃ j, k = j + 1 := ⟨k - 1, by omega⟩
    have hbC := blk_cell hBn.out 0
    simp only [List.getElem?_toArray, List.getElem?_cons_zero] at hbC
    by_cases hlt : at' < s.size
    · have hxs : (s.extract at' s.size).size = s.size - at' := by rw [Lib.size_eq, ext_drop, List.length_drop, str_len]
      have hE := extent_any (s.extract at' s.size) wr (HLOW.out wr hB.out) (by omega) (by omega)
      rw [ext_drop] at hE
      have hzl := extentB_le (s.data.toList.drop at')
      rw [List.length_drop, str_len] at hzl
      obtain ⟨z, hz⟩ : ∃ z, extentB (s.data.toList.drop at') = z := ⟨_, rfl⟩
      rw [hz] at hE hzl
      have HZ := Lib.hid hz
      clear hz
      by_cases hz0 : z = 0
      · have hpc : piecesF s.data.toList (k + 1) at' = [at'] := by
          rw [piecesF, if_pos (by rw [str_len]; exact hlt), HZ.out, if_pos hz0]
        have hlen : pre.length < (piecesB s.data.toList).length := by rw [← hpl.out, hpc, List.length_append, List.length_singleton]; omega
        have HPL : Hid (pre ++ [at'] = piecesB s.data.toList) := by show _ = _; rw [← hpl.out, hpc]
        obtain ⟨fn, tmps, assign, body, hy, hR⟩ := hY pre at' wr hJs.out hlen
        dsimp only [encW] at hy hR
        rw [HZ.out] at hy
        have hzb : ((z : Int) == 0) = true := by rw [hz0]; rfl
        clear hlen hpc hz0
        gi_wp2_with fail
        refine ⟨trivial, fun _ => by omega, callsIn_wide.2 (hE.mono ?_)⟩
        rintro e w1 ⟨rfl, rfl⟩
        gi_wp2_with fail
        refine ⟨fun _ => by omega, hR.mono ?_⟩
        rintro e W3 (⟨rfl, hJ3, hk3⟩ | ⟨rfl, hJx3⟩)
        · gi_wp2_with fail
          refine bodyPost_ret (results_none rfl _ _ _) rfl ?_
          exact ⟨⟨_, rfl⟩, .inl ⟨_, HPL.out, hJ3⟩⟩
        · gi_wp2_with fail
          refine bodyPost_ret (results_none rfl _ _ _) rfl ?_
          exact ⟨⟨_, rfl⟩, .inr ⟨_, ⟨[], by rw [List.append_nil]; exact HPL.out⟩, hJx3⟩⟩
      · have hpc : piecesF s.data.toList (k + 1) at' = at' :: piecesF s.data.toList k (at' + z + runB blank (s.data.toList.drop (at' + z))) := by
          rw [piecesF, if_pos (by rw [str_len]; exact hlt), HZ.out, if_neg hz0]
        have hlen : pre.length < (piecesB s.data.toList).length := by rw [← hpl.out, hpc, List.length_append, List.length_cons]; omega
        have HPL : Hid (pre ++ [at'] ++ piecesF s.data.toList k (at' + z + runB blank (s.data.toList.drop (at' + z))) = piecesB s.data.toList) := by show _ = _; rw [← hpl.out, hpc, List.append_assoc]; rfl
        obtain ⟨fn, tmps, assign, body, hy, hR⟩ := hY pre at' wr hJs.out hlen
        dsimp only [encW] at hy hR
        rw [HZ.out] at hy
        have hzb : ((z : Int) == 0) = false := by rw [beq_eq_false_iff_ne]; omega
        have hrl := runB_le blank (s.data.toList.drop (at' + z))
        rw [List.length_drop, str_len] at hrl
        have hxr : (s.extract (at' + z) s.size).size = s.size - (at' + z) := by rw [Lib.size_eq, ext_drop, List.length_drop, str_len]
        have hRun := fun w => run_blank (s.extract (at' + z) s.size) w (by omega)
        rw [ext_drop] at hRun
        clear hlen hpc
        gi_wp2_with fail
        refine ⟨trivial, fun _ => by omega, callsIn_wide.2 (hE.mono ?_)⟩
        rintro e w1 ⟨rfl, rfl⟩
        gi_wp2_with fail
        refine ⟨fun _ => by omega, hR.mono ?_⟩
        rintro e W3 (⟨rfl, hJ3, hk3⟩ | ⟨rfl, hJx3⟩)
        · have HJ3 := Lib.hid hJ3
          have HB3 := Lib.hid (hB.out.trans hk3.below)
          have hbn3 := hk3.box.trans hBn.out
          have HBN3 := Lib.hid hbn3
          have hbC3 := blk_cell hbn3 0
          simp only [List.getElem?_toArray, List.getElem?_cons_zero] at hbC3
          have hs3 := Nat.le_trans hsz hk3.size
          clear hJ3 hk3 hbn3
          gi_wp2_with fail
          refine ⟨trivial, fun _ => by omega, callsIn_wide.2 ((hRun _).mono ?_)⟩
          rintro e w1 ⟨rfl, rfl⟩
          gi_wp2_with fail
          go_roundw
          case rel => exact ⟨at' + z + runB blank (s.data.toList.drop (at' + z)), k, _, by go_num, HJ3, HPL, by omega, by omega, HB3, HBN3, hs3⟩
          case measure => simp [intOf]; omega
        · gi_wp2_with fail
          refine bodyPost_ret (results_none rfl _ _ _) rfl ?_
          exact ⟨⟨_, rfl⟩, .inr ⟨_, ⟨_, HPL.out⟩, hJx3⟩⟩
    · have hpc : piecesF s.data.toList (k + 1) at' = [] := by rw [piecesF, if_neg (by rw [str_len]; exact hlt)]
      have HPC := Lib.hid hpc
      clear hpc
      gi_wp2_with fail
      go_end0
      have e := hpl.out
      rw [HPC.out, List.append_nil] at e
      exact ⟨⟨_, rfl⟩, .inl ⟨_, e, hJs.out⟩⟩
end
end Go.Proofs.YtenmnpbjnbdeaaaGreatDoor
