/-
  WHAT IS PROVED: what reads a select.
-/
import Derived.Test.YtenmnpbjnbdeaaaGreatDoorMr
namespace Go.Proofs.YtenmnpbjnbdeaaaGreatDoor
section
open Go.RowKit Go.Shelf
set_option linter.unusedVariables false

theorem Fs.begin0 {w : World} : ((w.alloc (.cells stZero 39)).alloc (.cells stZero 39)).heap[w.heap.size + 1]? = some (.cells stZero 39 (0, 0)) := by
  have hs : (w.alloc (.cells stZero 39)).heap.size = w.heap.size + 1 := by simp
  rw [← hs]; exact heap_alloc_new _ _
theorem Fs.begin {N B : Nat} {w : World} {t : St} (z : Fz N B w.heap.size 39 stZero w (w.alloc (.cells stZero 39)) t) (A : Array Value) (x : StM) (hx : x = {noS with kind := x.kind, name := x.name, table := x.table, limit := x.limit, skip := x.skip}) :
    Fs N B w.heap.size (w.heap.size + 1) A w (((w.alloc (.cells stZero 39)).alloc (.cells stZero 39)).setRow (w.heap.size + 1) A) t x nS nS nS nS nS nS nS nS nS := by
  have hs : (w.alloc (.cells stZero 39)).heap.size = w.heap.size + 1 := by simp
  have := Fs.start z A x hx
  rw [hs] at this
  exact this
set_option maxRecDepth 100000 in
set_option maxHeartbeats 8000000 in
theorem select_000 (N B n : Nat) (hn : n ≤ 900000) (self : St → Ex × St) (hself : ReadsX N B n 35 self) (hle : Le self) (t : St) (w : World) (h : RdAt N w B t) (ht : t.rest.length ≤ n) (is : List ItemM) (fs : List FromM) (x1 : Ex) (t1 t2 t3 t4 t5 t6 t7 t8 t9 t10 : St) (gs : List Ex) (x2 : Ex) (os : List OrderM) (k k2 : Nat) (e1 : itemsP self t = (is, t1)) (e2 : tablesP self (t1.need wFrom) = (fs, t2)) (e3 : condP self wWhere t2 = (x1, t3)) (e4 : phraseP wGroup wBy t3 = (false, t6)) (e7 : phraseP wOrder wBy t6 = (false, t8)) (hb : t8.has wLimit = false) :
    Calls Tryz.prog 55 #[.pointer (some ⟨B, 0, none⟩)] w (GivesS N B (⟨7, [], [], [], [], [], is, fs, x1, [], noE, [], -1, 0⟩, t8) w) := by
  have hmf : ∀ (fn : Fn) (first cap : Array Value) (w : World), (Instr.makeFunc fn first cap).run Tryz.prog w = .ok (.func fn first cap) w := fun _ _ _ _ => rfl
  have F0 : Hid (Fz N B w.heap.size 39 (s00 0 z0 z0 nS nS nS nS nS nS nS 0 0) w (w.alloc (.cells (s00 0 z0 z0 nS nS nS nS nS nS nS 0 0) 39)) t) := Lib.hid (Fz.start 39 (s00 0 z0 z0 nS nS nS nS nS nS nS 0 0) h)
  have hI := fun w h => items_tr N B n hn self hself hle t w h ht
  unfold GivesL at hI; rw [e1] at hI; dsimp only at hI
  have HL1 : Hid (t1.rest.length ≤ n) := Lib.hid (by have a := itemsP_le hle t; rw [e1] at a; dsimp only at a; skip; omega)
  have hT := fun w h => tables_tr N B n hn self hself hle (t1.need wFrom) w h (by have b := St.need_le t1 wFrom; have c := HL1.out; omega)
  unfold GivesL at hT; rw [e2] at hT; dsimp only at hT
  have HL2 : Hid (t2.rest.length ≤ n) := Lib.hid (by have a := tablesP_le hle (t1.need wFrom); rw [e2] at a; dsimp only at a; have b := St.need_le t1 wFrom; have c := HL1.out; omega)
  have hW := fun w h => condition_tr N B n self hself ⟨#[119, 104, 101, 114, 101]⟩ (by decide) t2 w h HL2.out
  rw [show condP self (⟨#[119, 104, 101, 114, 101]⟩ : ByteArray).data.toList t2 = condP self wWhere t2 from rfl] at hW
  unfold GivesX at hW; rw [e3] at hW; dsimp only at hW
  have HL3 : Hid (t3.rest.length ≤ n) := Lib.hid (by have a := condP_le hle wWhere t2; rw [e3] at a; dsimp only at a; have c := HL2.out; omega)
  have hG := fun w h => phrase_tr N B ⟨#[103, 114, 111, 117, 112]⟩ ⟨#[98, 121]⟩ (by decide) (by decide) t3 w h
  rw [show phraseP (⟨#[103, 114, 111, 117, 112]⟩ : ByteArray).data.toList (⟨#[98, 121]⟩ : ByteArray).data.toList t3 = phraseP wGroup wBy t3 from rfl, e4] at hG; dsimp only at hG
  have HL6 : Hid (t6.rest.length ≤ n) := Lib.hid (by have a := phraseP_le wGroup wBy t3; rw [e4] at a; dsimp only at a; have c := HL3.out; omega)
  have hO := fun w h => phrase_tr N B ⟨#[111, 114, 100, 101, 114]⟩ ⟨#[98, 121]⟩ (by decide) (by decide) t6 w h
  rw [show phraseP (⟨#[111, 114, 100, 101, 114]⟩ : ByteArray).data.toList (⟨#[98, 121]⟩ : ByteArray).data.toList t6 = phraseP wOrder wBy t6 from rfl, e7] at hO; dsimp only at hO
  clear h e1 e2 e3 e4 e7
  go_enter Tryz.func55, Tryz.ntmps55
  obtain ⟨w1, hw1⟩ : ∃ w1, w1 = ((w.alloc (.cells (s00 0 z0 z0 nS nS nS nS nS nS nS 0 0) 39)).alloc (.cells (s00 0 z0 z0 nS nS nS nS nS nS nS 0 0) 39)).setRow (w.heap.size + 1) (s00 7 z0 z0 nS nS nS nS nS nS nS ((-1)) 0) := ⟨_, rfl⟩
  have F1 : Hid (Fs N B w.heap.size (w.heap.size + 1) (s00 7 z0 z0 nS nS nS nS nS nS nS ((-1)) 0) w w1 (t) ⟨7, [], [], [], [], [], [], [], noE, [], noE, [], -1, 0⟩ nS nS nS nS nS nS nS nS nS) := Lib.hid (by rw [hw1]; exact Fs.begin F0.out (s00 7 z0 z0 nS nS nS nS nS nS nS ((-1)) 0) _ rfl)
  have ZX : Hid (((w.alloc (.cells (s00 0 z0 z0 nS nS nS nS nS nS nS 0 0) 39)).alloc (.cells (s00 0 z0 z0 nS nS nS nS nS nS nS 0 0) 39)).heap[w.heap.size + 1]? = some (.cells (s00 0 z0 z0 nS nS nS nS nS nS nS 0 0) 39 (0, 0))) := Lib.hid Fs.begin0
  go_wp2_with (first
    | (refine wpList_store_row rfl 39 _ _ rfl (w.heap.size + 1) (s00 7 z0 z0 nS nS nS nS nS nS nS ((-1)) 0) rfl rfl _ _ ZX.out (by kernel_rfl) rfl (by simp [Value.oneCell']) ?_; rw [← hw1]; clear hw1))
  refine (hI _ F1.out.z.rd).mono ?_
  rintro e w2 ⟨v1, rfl, hrow, hr, hq⟩
  obtain ⟨a1, b1, hv, _⟩ := hrow.slice
  subst hv
  have F2 := Lib.hid (F1.out.call hr hq)
  have Q2 := Lib.hid (F1.out.gotL hrow)
  clear hrow hr hq
  have F3 : Hid (Fs N B w.heap.size (w.heap.size + 1) (s00 7 z0 z0 nS nS nS nS nS nS nS ((-1)) 0) w w2 (t1) ⟨7, [], [], [], [], [], is, [], noE, [], noE, [], -1, 0⟩ nS nS nS (.slice a1 (is).length b1) nS nS nS nS nS) := Lib.hid (F2.out.items Q2.out)
  have c2 : w2.cell? ⟨(w.heap.size + 1), 6, none⟩ = some nS := bk_cell F3.out.blk 6
  have z2 : w2.frozen? ⟨(w.heap.size + 1), 6, none⟩ = false := bk_free F3.out.blk 6
  have HS2 : Hid ((w2.setCell ⟨(w.heap.size + 1), 6, none⟩ (.slice a1 (is).length b1)) = w2.setRow (w.heap.size + 1) (s00 7 z0 z0 nS nS nS (.slice a1 (is).length b1) nS nS nS ((-1)) 0)) := Lib.hid ((setCell_eq_setRow w2 (w.heap.size + 1) 6 _ _ _ (.slice a1 (is).length b1) F3.out.blk).trans (congrArg (w2.setRow (w.heap.size + 1)) rfl))
  have F4 : Hid (Fs N B w.heap.size (w.heap.size + 1) (s00 7 z0 z0 nS nS nS (.slice a1 (is).length b1) nS nS nS ((-1)) 0) w (w2.setCell ⟨(w.heap.size + 1), 6, none⟩ (.slice a1 (is).length b1)) (t1) ⟨7, [], [], [], [], [], is, [], noE, [], noE, [], -1, 0⟩ nS nS nS (.slice a1 (is).length b1) nS nS nS nS nS) := Lib.hid (by rw [HS2.out]; exact F3.out.set _)
  go_wp2_with fail
  refine (need_any N B t1 ⟨#[102, 114, 111, 109]⟩ _ F4.out.z.rd (by decide)).mono ?_
  rintro e w5 ⟨rfl, hr, hq⟩
  have F5 := Lib.hid (F4.out.call hr hq)
  clear hr hq
  go_wp2_with fail
  refine (hT _ F5.out.z.rd).mono ?_
  rintro e w6 ⟨v5, rfl, hrow, hr, hq⟩
  obtain ⟨a5, b5, hv, _⟩ := hrow.slice
  subst hv
  have F6 := Lib.hid (F5.out.call hr hq)
  have Q6 := Lib.hid (F5.out.gotL hrow)
  clear hrow hr hq
  have F7 : Hid (Fs N B w.heap.size (w.heap.size + 1) (s00 7 z0 z0 nS nS nS (.slice a1 (is).length b1) nS nS nS ((-1)) 0) w w6 (t2) ⟨7, [], [], [], [], [], is, fs, noE, [], noE, [], -1, 0⟩ nS nS nS (.slice a1 (is).length b1) (.slice a5 (fs).length b5) nS nS nS nS) := Lib.hid (F6.out.tables Q6.out)
  have c6 : w6.cell? ⟨(w.heap.size + 1), 7, none⟩ = some nS := bk_cell F7.out.blk 7
  have z6 : w6.frozen? ⟨(w.heap.size + 1), 7, none⟩ = false := bk_free F7.out.blk 7
  have HS6 : Hid ((w6.setCell ⟨(w.heap.size + 1), 7, none⟩ (.slice a5 (fs).length b5)) = w6.setRow (w.heap.size + 1) (s00 7 z0 z0 nS nS nS (.slice a1 (is).length b1) (.slice a5 (fs).length b5) nS nS ((-1)) 0)) := Lib.hid ((setCell_eq_setRow w6 (w.heap.size + 1) 7 _ _ _ (.slice a5 (fs).length b5) F7.out.blk).trans (congrArg (w6.setRow (w.heap.size + 1)) rfl))
  have F8 : Hid (Fs N B w.heap.size (w.heap.size + 1) (s00 7 z0 z0 nS nS nS (.slice a1 (is).length b1) (.slice a5 (fs).length b5) nS nS ((-1)) 0) w (w6.setCell ⟨(w.heap.size + 1), 7, none⟩ (.slice a5 (fs).length b5)) (t2) ⟨7, [], [], [], [], [], is, fs, noE, [], noE, [], -1, 0⟩ nS nS nS (.slice a1 (is).length b1) (.slice a5 (fs).length b5) nS nS nS nS) := Lib.hid (by rw [HS6.out]; exact F7.out.set _)
  go_wp2_with fail
  refine (hW _ F8.out.z.rd).mono ?_
  rintro e w9 ⟨v8, rfl, hs, hr, hq⟩
  obtain ⟨a8, n8, b8, hu⟩ := hs.slice
  subst hu
  have F9 : Hid (Fs N B w.heap.size (w.heap.size + 1) (s00 7 z0 z0 nS nS nS (.slice a1 (is).length b1) (.slice a5 (fs).length b5) nS nS ((-1)) 0) w w9 (t3) ⟨7, [], [], [], [], [], is, fs, x1, [], noE, [], -1, 0⟩ nS nS nS (.slice a1 (is).length b1) (.slice a5 (fs).length b5) (.slice a8 n8 b8) nS nS nS) := Lib.hid ((F8.out.call hr hq).cond (e := x1) (F8.out.gotX hs))
  obtain ⟨w10, hw10⟩ : ∃ w10, w10 = w9.setRow (w.heap.size + 1) (s10 7 z0 z0 nS nS nS (.slice a1 (is).length b1) (.slice a5 (fs).length b5) x1.a (.slice a8 n8 b8) nS nS ((-1)) 0) := ⟨_, rfl⟩
  have F10 : Hid (Fs N B w.heap.size (w.heap.size + 1) (s10 7 z0 z0 nS nS nS (.slice a1 (is).length b1) (.slice a5 (fs).length b5) x1.a (.slice a8 n8 b8) nS nS ((-1)) 0) w w10 (t3) ⟨7, [], [], [], [], [], is, fs, x1, [], noE, [], -1, 0⟩ nS nS nS (.slice a1 (is).length b1) (.slice a5 (fs).length b5) (.slice a8 n8 b8) nS nS nS) := Lib.hid (by rw [hw10]; exact F9.out.set _)
  clear hs hr hq
  unfold exVal
  go_wp2_with (first
    | (refine wpList_store_field rfl 36 _ _ rfl (w.heap.size + 1) 8 (eA x1.a (.slice a8 n8 b8)) rfl rfl _ _ F9.out.blk (by kernel_rfl) (by simp [Value.oneCell']) (by simp) (s10 7 z0 z0 nS nS nS (.slice a1 (is).length b1) (.slice a5 (fs).length b5) x1.a (.slice a8 n8 b8) nS nS ((-1)) 0) rfl ?_; rw [← hw10]; clear hw10))
  refine (hG _ F10.out.z.rd).mono ?_
  rintro e w11 ⟨rfl, hr, hq⟩
  have F11 := Lib.hid (F10.out.call hr hq)
  clear hr hq
  go_wp2_with fail
  refine (hO _ F11.out.z.rd).mono ?_
  rintro e w12 ⟨rfl, hr, hq⟩
  have F12 := Lib.hid (F11.out.call hr hq)
  clear hr hq
  go_wp2_with fail
  refine (take_no N B t8 ⟨#[108, 105, 109, 105, 116]⟩ _ F12.out.z.rd hb).mono ?_
  rintro e w13 ⟨rfl, hr, hb12⟩
  have F13 := Lib.hid (F12.out.new hb12)
  clear hr hb12
  go_wp2_with (first
    | (refine wpList_load_row rfl 39 _ rfl (w.heap.size + 1) rfl _ (s10 7 z0 z0 nS nS nS (.slice a1 (is).length b1) (.slice a5 (fs).length b5) x1.a (.slice a8 n8 b8) nS nS ((-1)) 0) (0, 0) _ F13.out.blk Tryz.underlying39 rfl (by kernel_rfl) ?_)
    | (refine wpList_store_row rfl 39 _ _ rfl w.heap.size (s10 7 z0 z0 nS nS nS (.slice a1 (is).length b1) (.slice a5 (fs).length b5) x1.a (.slice a8 n8 b8) nS nS ((-1)) 0) rfl rfl _ _ F13.out.z.res (by kernel_rfl) rfl (by simp [Value.oneCell']) ?_))
  refine bodyPost_ret (results_cell_row Tryz.results55 _ _ w.heap.size 39 (s10 7 z0 z0 nS nS nS (.slice a1 (is).length b1) (.slice a5 (fs).length b5) x1.a (.slice a8 n8 b8) nS nS ((-1)) 0) (0, 0) _ rfl (setRow_heap _ _ _ _ _ _ F13.out.z.res) Tryz.underlying39 rfl (by kernel_rfl)) rfl ?_
  exact F13.out.done rfl
set_option maxRecDepth 100000 in
set_option maxHeartbeats 8000000 in
theorem select_001 (N B n : Nat) (hn : n ≤ 900000) (self : St → Ex × St) (hself : ReadsX N B n 35 self) (hle : Le self) (t : St) (w : World) (h : RdAt N w B t) (ht : t.rest.length ≤ n) (is : List ItemM) (fs : List FromM) (x1 : Ex) (t1 t2 t3 t4 t5 t6 t7 t8 t9 t10 : St) (gs : List Ex) (x2 : Ex) (os : List OrderM) (k k2 : Nat) (e1 : itemsP self t = (is, t1)) (e2 : tablesP self (t1.need wFrom) = (fs, t2)) (e3 : condP self wWhere t2 = (x1, t3)) (e4 : phraseP wGroup wBy t3 = (false, t6)) (e7 : phraseP wOrder wBy t6 = (false, t8)) (hb : t8.has wLimit = true) (e9 : numberP t8.step = (k, t9)) (hc : t9.has wOffset = false) :
    Calls Tryz.prog 55 #[.pointer (some ⟨B, 0, none⟩)] w (GivesS N B (⟨7, [], [], [], [], [], is, fs, x1, [], noE, [], (k : Int), 0⟩, t9) w) := by
  have hmf : ∀ (fn : Fn) (first cap : Array Value) (w : World), (Instr.makeFunc fn first cap).run Tryz.prog w = .ok (.func fn first cap) w := fun _ _ _ _ => rfl
  have F0 : Hid (Fz N B w.heap.size 39 (s00 0 z0 z0 nS nS nS nS nS nS nS 0 0) w (w.alloc (.cells (s00 0 z0 z0 nS nS nS nS nS nS nS 0 0) 39)) t) := Lib.hid (Fz.start 39 (s00 0 z0 z0 nS nS nS nS nS nS nS 0 0) h)
  have hI := fun w h => items_tr N B n hn self hself hle t w h ht
  unfold GivesL at hI; rw [e1] at hI; dsimp only at hI
  have HL1 : Hid (t1.rest.length ≤ n) := Lib.hid (by have a := itemsP_le hle t; rw [e1] at a; dsimp only at a; skip; omega)
  have hT := fun w h => tables_tr N B n hn self hself hle (t1.need wFrom) w h (by have b := St.need_le t1 wFrom; have c := HL1.out; omega)
  unfold GivesL at hT; rw [e2] at hT; dsimp only at hT
  have HL2 : Hid (t2.rest.length ≤ n) := Lib.hid (by have a := tablesP_le hle (t1.need wFrom); rw [e2] at a; dsimp only at a; have b := St.need_le t1 wFrom; have c := HL1.out; omega)
  have hW := fun w h => condition_tr N B n self hself ⟨#[119, 104, 101, 114, 101]⟩ (by decide) t2 w h HL2.out
  rw [show condP self (⟨#[119, 104, 101, 114, 101]⟩ : ByteArray).data.toList t2 = condP self wWhere t2 from rfl] at hW
  unfold GivesX at hW; rw [e3] at hW; dsimp only at hW
  have HL3 : Hid (t3.rest.length ≤ n) := Lib.hid (by have a := condP_le hle wWhere t2; rw [e3] at a; dsimp only at a; have c := HL2.out; omega)
  have hG := fun w h => phrase_tr N B ⟨#[103, 114, 111, 117, 112]⟩ ⟨#[98, 121]⟩ (by decide) (by decide) t3 w h
  rw [show phraseP (⟨#[103, 114, 111, 117, 112]⟩ : ByteArray).data.toList (⟨#[98, 121]⟩ : ByteArray).data.toList t3 = phraseP wGroup wBy t3 from rfl, e4] at hG; dsimp only at hG
  have HL6 : Hid (t6.rest.length ≤ n) := Lib.hid (by have a := phraseP_le wGroup wBy t3; rw [e4] at a; dsimp only at a; have c := HL3.out; omega)
  have hO := fun w h => phrase_tr N B ⟨#[111, 114, 100, 101, 114]⟩ ⟨#[98, 121]⟩ (by decide) (by decide) t6 w h
  rw [show phraseP (⟨#[111, 114, 100, 101, 114]⟩ : ByteArray).data.toList (⟨#[98, 121]⟩ : ByteArray).data.toList t6 = phraseP wOrder wBy t6 from rfl, e7] at hO; dsimp only at hO
  have hK := fun w h => number_tr N B t8.step w h
  rw [e9] at hK; dsimp only at hK
  clear h e1 e2 e3 e4 e7 e9
  go_enter Tryz.func55, Tryz.ntmps55
  obtain ⟨w1, hw1⟩ : ∃ w1, w1 = ((w.alloc (.cells (s00 0 z0 z0 nS nS nS nS nS nS nS 0 0) 39)).alloc (.cells (s00 0 z0 z0 nS nS nS nS nS nS nS 0 0) 39)).setRow (w.heap.size + 1) (s00 7 z0 z0 nS nS nS nS nS nS nS ((-1)) 0) := ⟨_, rfl⟩
  have F1 : Hid (Fs N B w.heap.size (w.heap.size + 1) (s00 7 z0 z0 nS nS nS nS nS nS nS ((-1)) 0) w w1 (t) ⟨7, [], [], [], [], [], [], [], noE, [], noE, [], -1, 0⟩ nS nS nS nS nS nS nS nS nS) := Lib.hid (by rw [hw1]; exact Fs.begin F0.out (s00 7 z0 z0 nS nS nS nS nS nS nS ((-1)) 0) _ rfl)
  have ZX : Hid (((w.alloc (.cells (s00 0 z0 z0 nS nS nS nS nS nS nS 0 0) 39)).alloc (.cells (s00 0 z0 z0 nS nS nS nS nS nS nS 0 0) 39)).heap[w.heap.size + 1]? = some (.cells (s00 0 z0 z0 nS nS nS nS nS nS nS 0 0) 39 (0, 0))) := Lib.hid Fs.begin0
  go_wp2_with (first
    | (refine wpList_store_row rfl 39 _ _ rfl (w.heap.size + 1) (s00 7 z0 z0 nS nS nS nS nS nS nS ((-1)) 0) rfl rfl _ _ ZX.out (by kernel_rfl) rfl (by simp [Value.oneCell']) ?_; rw [← hw1]; clear hw1))
  refine (hI _ F1.out.z.rd).mono ?_
  rintro e w2 ⟨v1, rfl, hrow, hr, hq⟩
  obtain ⟨a1, b1, hv, _⟩ := hrow.slice
  subst hv
  have F2 := Lib.hid (F1.out.call hr hq)
  have Q2 := Lib.hid (F1.out.gotL hrow)
  clear hrow hr hq
  have F3 : Hid (Fs N B w.heap.size (w.heap.size + 1) (s00 7 z0 z0 nS nS nS nS nS nS nS ((-1)) 0) w w2 (t1) ⟨7, [], [], [], [], [], is, [], noE, [], noE, [], -1, 0⟩ nS nS nS (.slice a1 (is).length b1) nS nS nS nS nS) := Lib.hid (F2.out.items Q2.out)
  have c2 : w2.cell? ⟨(w.heap.size + 1), 6, none⟩ = some nS := bk_cell F3.out.blk 6
  have z2 : w2.frozen? ⟨(w.heap.size + 1), 6, none⟩ = false := bk_free F3.out.blk 6
  have HS2 : Hid ((w2.setCell ⟨(w.heap.size + 1), 6, none⟩ (.slice a1 (is).length b1)) = w2.setRow (w.heap.size + 1) (s00 7 z0 z0 nS nS nS (.slice a1 (is).length b1) nS nS nS ((-1)) 0)) := Lib.hid ((setCell_eq_setRow w2 (w.heap.size + 1) 6 _ _ _ (.slice a1 (is).length b1) F3.out.blk).trans (congrArg (w2.setRow (w.heap.size + 1)) rfl))
  have F4 : Hid (Fs N B w.heap.size (w.heap.size + 1) (s00 7 z0 z0 nS nS nS (.slice a1 (is).length b1) nS nS nS ((-1)) 0) w (w2.setCell ⟨(w.heap.size + 1), 6, none⟩ (.slice a1 (is).length b1)) (t1) ⟨7, [], [], [], [], [], is, [], noE, [], noE, [], -1, 0⟩ nS nS nS (.slice a1 (is).length b1) nS nS nS nS nS) := Lib.hid (by rw [HS2.out]; exact F3.out.set _)
  go_wp2_with fail
  refine (need_any N B t1 ⟨#[102, 114, 111, 109]⟩ _ F4.out.z.rd (by decide)).mono ?_
  rintro e w5 ⟨rfl, hr, hq⟩
  have F5 := Lib.hid (F4.out.call hr hq)
  clear hr hq
  go_wp2_with fail
  refine (hT _ F5.out.z.rd).mono ?_
  rintro e w6 ⟨v5, rfl, hrow, hr, hq⟩
  obtain ⟨a5, b5, hv, _⟩ := hrow.slice
  subst hv
  have F6 := Lib.hid (F5.out.call hr hq)
  have Q6 := Lib.hid (F5.out.gotL hrow)
  clear hrow hr hq
  have F7 : Hid (Fs N B w.heap.size (w.heap.size + 1) (s00 7 z0 z0 nS nS nS (.slice a1 (is).length b1) nS nS nS ((-1)) 0) w w6 (t2) ⟨7, [], [], [], [], [], is, fs, noE, [], noE, [], -1, 0⟩ nS nS nS (.slice a1 (is).length b1) (.slice a5 (fs).length b5) nS nS nS nS) := Lib.hid (F6.out.tables Q6.out)
  have c6 : w6.cell? ⟨(w.heap.size + 1), 7, none⟩ = some nS := bk_cell F7.out.blk 7
  have z6 : w6.frozen? ⟨(w.heap.size + 1), 7, none⟩ = false := bk_free F7.out.blk 7
  have HS6 : Hid ((w6.setCell ⟨(w.heap.size + 1), 7, none⟩ (.slice a5 (fs).length b5)) = w6.setRow (w.heap.size + 1) (s00 7 z0 z0 nS nS nS (.slice a1 (is).length b1) (.slice a5 (fs).length b5) nS nS ((-1)) 0)) := Lib.hid ((setCell_eq_setRow w6 (w.heap.size + 1) 7 _ _ _ (.slice a5 (fs).length b5) F7.out.blk).trans (congrArg (w6.setRow (w.heap.size + 1)) rfl))
  have F8 : Hid (Fs N B w.heap.size (w.heap.size + 1) (s00 7 z0 z0 nS nS nS (.slice a1 (is).length b1) (.slice a5 (fs).length b5) nS nS ((-1)) 0) w (w6.setCell ⟨(w.heap.size + 1), 7, none⟩ (.slice a5 (fs).length b5)) (t2) ⟨7, [], [], [], [], [], is, fs, noE, [], noE, [], -1, 0⟩ nS nS nS (.slice a1 (is).length b1) (.slice a5 (fs).length b5) nS nS nS nS) := Lib.hid (by rw [HS6.out]; exact F7.out.set _)
  go_wp2_with fail
  refine (hW _ F8.out.z.rd).mono ?_
  rintro e w9 ⟨v8, rfl, hs, hr, hq⟩
  obtain ⟨a8, n8, b8, hu⟩ := hs.slice
  subst hu
  have F9 : Hid (Fs N B w.heap.size (w.heap.size + 1) (s00 7 z0 z0 nS nS nS (.slice a1 (is).length b1) (.slice a5 (fs).length b5) nS nS ((-1)) 0) w w9 (t3) ⟨7, [], [], [], [], [], is, fs, x1, [], noE, [], -1, 0⟩ nS nS nS (.slice a1 (is).length b1) (.slice a5 (fs).length b5) (.slice a8 n8 b8) nS nS nS) := Lib.hid ((F8.out.call hr hq).cond (e := x1) (F8.out.gotX hs))
  obtain ⟨w10, hw10⟩ : ∃ w10, w10 = w9.setRow (w.heap.size + 1) (s10 7 z0 z0 nS nS nS (.slice a1 (is).length b1) (.slice a5 (fs).length b5) x1.a (.slice a8 n8 b8) nS nS ((-1)) 0) := ⟨_, rfl⟩
  have F10 : Hid (Fs N B w.heap.size (w.heap.size + 1) (s10 7 z0 z0 nS nS nS (.slice a1 (is).length b1) (.slice a5 (fs).length b5) x1.a (.slice a8 n8 b8) nS nS ((-1)) 0) w w10 (t3) ⟨7, [], [], [], [], [], is, fs, x1, [], noE, [], -1, 0⟩ nS nS nS (.slice a1 (is).length b1) (.slice a5 (fs).length b5) (.slice a8 n8 b8) nS nS nS) := Lib.hid (by rw [hw10]; exact F9.out.set _)
  clear hs hr hq
  unfold exVal
  go_wp2_with (first
    | (refine wpList_store_field rfl 36 _ _ rfl (w.heap.size + 1) 8 (eA x1.a (.slice a8 n8 b8)) rfl rfl _ _ F9.out.blk (by kernel_rfl) (by simp [Value.oneCell']) (by simp) (s10 7 z0 z0 nS nS nS (.slice a1 (is).length b1) (.slice a5 (fs).length b5) x1.a (.slice a8 n8 b8) nS nS ((-1)) 0) rfl ?_; rw [← hw10]; clear hw10))
  refine (hG _ F10.out.z.rd).mono ?_
  rintro e w11 ⟨rfl, hr, hq⟩
  have F11 := Lib.hid (F10.out.call hr hq)
  clear hr hq
  go_wp2_with fail
  refine (hO _ F11.out.z.rd).mono ?_
  rintro e w12 ⟨rfl, hr, hq⟩
  have F12 := Lib.hid (F11.out.call hr hq)
  clear hr hq
  go_wp2_with fail
  refine (take_yes N B t8 ⟨#[108, 105, 109, 105, 116]⟩ _ F12.out.z.rd hb (by decide)).mono ?_
  rintro e w13 ⟨rfl, hr, hq⟩
  have F13 := Lib.hid (F12.out.call hr hq)
  clear hr hq
  go_wp2_with fail
  refine (hK _ F13.out.z.rd).mono ?_
  rintro e w14 ⟨rfl, hr, hq⟩
  have F14 := Lib.hid (F13.out.call hr hq)
  clear hr hq
  have F15 : Hid (Fs N B w.heap.size (w.heap.size + 1) (s10 7 z0 z0 nS nS nS (.slice a1 (is).length b1) (.slice a5 (fs).length b5) x1.a (.slice a8 n8 b8) nS nS ((-1)) 0) w w14 (t9) ⟨7, [], [], [], [], [], is, fs, x1, [], noE, [], (k : Int), 0⟩ nS nS nS (.slice a1 (is).length b1) (.slice a5 (fs).length b5) (.slice a8 n8 b8) nS nS nS) := Lib.hid (F14.out.limit (k : Int))
  have c14 : w14.cell? ⟨(w.heap.size + 1), 28, none⟩ = some (.int .i64 (-1)) := bk_cell F15.out.blk 28
  have z14 : w14.frozen? ⟨(w.heap.size + 1), 28, none⟩ = false := bk_free F15.out.blk 28
  have HS14 : Hid ((w14.setCell ⟨(w.heap.size + 1), 28, none⟩ (.int .i64 (k : Int))) = w14.setRow (w.heap.size + 1) (s10 7 z0 z0 nS nS nS (.slice a1 (is).length b1) (.slice a5 (fs).length b5) x1.a (.slice a8 n8 b8) nS nS ((k : Int)) 0)) := Lib.hid ((setCell_eq_setRow w14 (w.heap.size + 1) 28 _ _ _ (.int .i64 (k : Int)) F15.out.blk).trans (congrArg (w14.setRow (w.heap.size + 1)) rfl))
  have F16 : Hid (Fs N B w.heap.size (w.heap.size + 1) (s10 7 z0 z0 nS nS nS (.slice a1 (is).length b1) (.slice a5 (fs).length b5) x1.a (.slice a8 n8 b8) nS nS ((k : Int)) 0) w (w14.setCell ⟨(w.heap.size + 1), 28, none⟩ (.int .i64 (k : Int))) (t9) ⟨7, [], [], [], [], [], is, fs, x1, [], noE, [], (k : Int), 0⟩ nS nS nS (.slice a1 (is).length b1) (.slice a5 (fs).length b5) (.slice a8 n8 b8) nS nS nS) := Lib.hid (by rw [HS14.out]; exact F15.out.set _)
  go_wp2_with fail
  refine (take_no N B t9 ⟨#[111, 102, 102, 115, 101, 116]⟩ _ F16.out.z.rd hc).mono ?_
  rintro e w17 ⟨rfl, hr, hb16⟩
  have F17 := Lib.hid (F16.out.new hb16)
  clear hr hb16
  go_wp2_with (first
    | (refine wpList_load_row rfl 39 _ rfl (w.heap.size + 1) rfl _ (s10 7 z0 z0 nS nS nS (.slice a1 (is).length b1) (.slice a5 (fs).length b5) x1.a (.slice a8 n8 b8) nS nS ((k : Int)) 0) (0, 0) _ F17.out.blk Tryz.underlying39 rfl (by kernel_rfl) ?_)
    | (refine wpList_store_row rfl 39 _ _ rfl w.heap.size (s10 7 z0 z0 nS nS nS (.slice a1 (is).length b1) (.slice a5 (fs).length b5) x1.a (.slice a8 n8 b8) nS nS ((k : Int)) 0) rfl rfl _ _ F17.out.z.res (by kernel_rfl) rfl (by simp [Value.oneCell']) ?_))
  refine bodyPost_ret (results_cell_row Tryz.results55 _ _ w.heap.size 39 (s10 7 z0 z0 nS nS nS (.slice a1 (is).length b1) (.slice a5 (fs).length b5) x1.a (.slice a8 n8 b8) nS nS ((k : Int)) 0) (0, 0) _ rfl (setRow_heap _ _ _ _ _ _ F17.out.z.res) Tryz.underlying39 rfl (by kernel_rfl)) rfl ?_
  exact F17.out.done rfl
set_option maxRecDepth 100000 in
set_option maxHeartbeats 8000000 in
theorem select_002 (N B n : Nat) (hn : n ≤ 900000) (self : St → Ex × St) (hself : ReadsX N B n 35 self) (hle : Le self) (t : St) (w : World) (h : RdAt N w B t) (ht : t.rest.length ≤ n) (is : List ItemM) (fs : List FromM) (x1 : Ex) (t1 t2 t3 t4 t5 t6 t7 t8 t9 t10 : St) (gs : List Ex) (x2 : Ex) (os : List OrderM) (k k2 : Nat) (e1 : itemsP self t = (is, t1)) (e2 : tablesP self (t1.need wFrom) = (fs, t2)) (e3 : condP self wWhere t2 = (x1, t3)) (e4 : phraseP wGroup wBy t3 = (false, t6)) (e7 : phraseP wOrder wBy t6 = (false, t8)) (hb : t8.has wLimit = true) (e9 : numberP t8.step = (k, t9)) (hc : t9.has wOffset = true) (e10 : numberP t9.step = (k2, t10)) :
    Calls Tryz.prog 55 #[.pointer (some ⟨B, 0, none⟩)] w (GivesS N B (⟨7, [], [], [], [], [], is, fs, x1, [], noE, [], (k : Int), (k2 : Int)⟩, t10) w) := by
  have hmf : ∀ (fn : Fn) (first cap : Array Value) (w : World), (Instr.makeFunc fn first cap).run Tryz.prog w = .ok (.func fn first cap) w := fun _ _ _ _ => rfl
  have F0 : Hid (Fz N B w.heap.size 39 (s00 0 z0 z0 nS nS nS nS nS nS nS 0 0) w (w.alloc (.cells (s00 0 z0 z0 nS nS nS nS nS nS nS 0 0) 39)) t) := Lib.hid (Fz.start 39 (s00 0 z0 z0 nS nS nS nS nS nS nS 0 0) h)
  have hI := fun w h => items_tr N B n hn self hself hle t w h ht
  unfold GivesL at hI; rw [e1] at hI; dsimp only at hI
  have HL1 : Hid (t1.rest.length ≤ n) := Lib.hid (by have a := itemsP_le hle t; rw [e1] at a; dsimp only at a; skip; omega)
  have hT := fun w h => tables_tr N B n hn self hself hle (t1.need wFrom) w h (by have b := St.need_le t1 wFrom; have c := HL1.out; omega)
  unfold GivesL at hT; rw [e2] at hT; dsimp only at hT
  have HL2 : Hid (t2.rest.length ≤ n) := Lib.hid (by have a := tablesP_le hle (t1.need wFrom); rw [e2] at a; dsimp only at a; have b := St.need_le t1 wFrom; have c := HL1.out; omega)
  have hW := fun w h => condition_tr N B n self hself ⟨#[119, 104, 101, 114, 101]⟩ (by decide) t2 w h HL2.out
  rw [show condP self (⟨#[119, 104, 101, 114, 101]⟩ : ByteArray).data.toList t2 = condP self wWhere t2 from rfl] at hW
  unfold GivesX at hW; rw [e3] at hW; dsimp only at hW
  have HL3 : Hid (t3.rest.length ≤ n) := Lib.hid (by have a := condP_le hle wWhere t2; rw [e3] at a; dsimp only at a; have c := HL2.out; omega)
  have hG := fun w h => phrase_tr N B ⟨#[103, 114, 111, 117, 112]⟩ ⟨#[98, 121]⟩ (by decide) (by decide) t3 w h
  rw [show phraseP (⟨#[103, 114, 111, 117, 112]⟩ : ByteArray).data.toList (⟨#[98, 121]⟩ : ByteArray).data.toList t3 = phraseP wGroup wBy t3 from rfl, e4] at hG; dsimp only at hG
  have HL6 : Hid (t6.rest.length ≤ n) := Lib.hid (by have a := phraseP_le wGroup wBy t3; rw [e4] at a; dsimp only at a; have c := HL3.out; omega)
  have hO := fun w h => phrase_tr N B ⟨#[111, 114, 100, 101, 114]⟩ ⟨#[98, 121]⟩ (by decide) (by decide) t6 w h
  rw [show phraseP (⟨#[111, 114, 100, 101, 114]⟩ : ByteArray).data.toList (⟨#[98, 121]⟩ : ByteArray).data.toList t6 = phraseP wOrder wBy t6 from rfl, e7] at hO; dsimp only at hO
  have hK := fun w h => number_tr N B t8.step w h
  rw [e9] at hK; dsimp only at hK
  have hM := fun w h => number_tr N B t9.step w h
  rw [e10] at hM; dsimp only at hM
  clear h e1 e2 e3 e4 e7 e9 e10
  go_enter Tryz.func55, Tryz.ntmps55
  obtain ⟨w1, hw1⟩ : ∃ w1, w1 = ((w.alloc (.cells (s00 0 z0 z0 nS nS nS nS nS nS nS 0 0) 39)).alloc (.cells (s00 0 z0 z0 nS nS nS nS nS nS nS 0 0) 39)).setRow (w.heap.size + 1) (s00 7 z0 z0 nS nS nS nS nS nS nS ((-1)) 0) := ⟨_, rfl⟩
  have F1 : Hid (Fs N B w.heap.size (w.heap.size + 1) (s00 7 z0 z0 nS nS nS nS nS nS nS ((-1)) 0) w w1 (t) ⟨7, [], [], [], [], [], [], [], noE, [], noE, [], -1, 0⟩ nS nS nS nS nS nS nS nS nS) := Lib.hid (by rw [hw1]; exact Fs.begin F0.out (s00 7 z0 z0 nS nS nS nS nS nS nS ((-1)) 0) _ rfl)
  have ZX : Hid (((w.alloc (.cells (s00 0 z0 z0 nS nS nS nS nS nS nS 0 0) 39)).alloc (.cells (s00 0 z0 z0 nS nS nS nS nS nS nS 0 0) 39)).heap[w.heap.size + 1]? = some (.cells (s00 0 z0 z0 nS nS nS nS nS nS nS 0 0) 39 (0, 0))) := Lib.hid Fs.begin0
  go_wp2_with (first
    | (refine wpList_store_row rfl 39 _ _ rfl (w.heap.size + 1) (s00 7 z0 z0 nS nS nS nS nS nS nS ((-1)) 0) rfl rfl _ _ ZX.out (by kernel_rfl) rfl (by simp [Value.oneCell']) ?_; rw [← hw1]; clear hw1))
  refine (hI _ F1.out.z.rd).mono ?_
  rintro e w2 ⟨v1, rfl, hrow, hr, hq⟩
  obtain ⟨a1, b1, hv, _⟩ := hrow.slice
  subst hv
  have F2 := Lib.hid (F1.out.call hr hq)
  have Q2 := Lib.hid (F1.out.gotL hrow)
  clear hrow hr hq
  have F3 : Hid (Fs N B w.heap.size (w.heap.size + 1) (s00 7 z0 z0 nS nS nS nS nS nS nS ((-1)) 0) w w2 (t1) ⟨7, [], [], [], [], [], is, [], noE, [], noE, [], -1, 0⟩ nS nS nS (.slice a1 (is).length b1) nS nS nS nS nS) := Lib.hid (F2.out.items Q2.out)
  have c2 : w2.cell? ⟨(w.heap.size + 1), 6, none⟩ = some nS := bk_cell F3.out.blk 6
  have z2 : w2.frozen? ⟨(w.heap.size + 1), 6, none⟩ = false := bk_free F3.out.blk 6
  have HS2 : Hid ((w2.setCell ⟨(w.heap.size + 1), 6, none⟩ (.slice a1 (is).length b1)) = w2.setRow (w.heap.size + 1) (s00 7 z0 z0 nS nS nS (.slice a1 (is).length b1) nS nS nS ((-1)) 0)) := Lib.hid ((setCell_eq_setRow w2 (w.heap.size + 1) 6 _ _ _ (.slice a1 (is).length b1) F3.out.blk).trans (congrArg (w2.setRow (w.heap.size + 1)) rfl))
  have F4 : Hid (Fs N B w.heap.size (w.heap.size + 1) (s00 7 z0 z0 nS nS nS (.slice a1 (is).length b1) nS nS nS ((-1)) 0) w (w2.setCell ⟨(w.heap.size + 1), 6, none⟩ (.slice a1 (is).length b1)) (t1) ⟨7, [], [], [], [], [], is, [], noE, [], noE, [], -1, 0⟩ nS nS nS (.slice a1 (is).length b1) nS nS nS nS nS) := Lib.hid (by rw [HS2.out]; exact F3.out.set _)
  go_wp2_with fail
  refine (need_any N B t1 ⟨#[102, 114, 111, 109]⟩ _ F4.out.z.rd (by decide)).mono ?_
  rintro e w5 ⟨rfl, hr, hq⟩
  have F5 := Lib.hid (F4.out.call hr hq)
  clear hr hq
  go_wp2_with fail
  refine (hT _ F5.out.z.rd).mono ?_
  rintro e w6 ⟨v5, rfl, hrow, hr, hq⟩
  obtain ⟨a5, b5, hv, _⟩ := hrow.slice
  subst hv
  have F6 := Lib.hid (F5.out.call hr hq)
  have Q6 := Lib.hid (F5.out.gotL hrow)
  clear hrow hr hq
  have F7 : Hid (Fs N B w.heap.size (w.heap.size + 1) (s00 7 z0 z0 nS nS nS (.slice a1 (is).length b1) nS nS nS ((-1)) 0) w w6 (t2) ⟨7, [], [], [], [], [], is, fs, noE, [], noE, [], -1, 0⟩ nS nS nS (.slice a1 (is).length b1) (.slice a5 (fs).length b5) nS nS nS nS) := Lib.hid (F6.out.tables Q6.out)
  have c6 : w6.cell? ⟨(w.heap.size + 1), 7, none⟩ = some nS := bk_cell F7.out.blk 7
  have z6 : w6.frozen? ⟨(w.heap.size + 1), 7, none⟩ = false := bk_free F7.out.blk 7
  have HS6 : Hid ((w6.setCell ⟨(w.heap.size + 1), 7, none⟩ (.slice a5 (fs).length b5)) = w6.setRow (w.heap.size + 1) (s00 7 z0 z0 nS nS nS (.slice a1 (is).length b1) (.slice a5 (fs).length b5) nS nS ((-1)) 0)) := Lib.hid ((setCell_eq_setRow w6 (w.heap.size + 1) 7 _ _ _ (.slice a5 (fs).length b5) F7.out.blk).trans (congrArg (w6.setRow (w.heap.size + 1)) rfl))
  have F8 : Hid (Fs N B w.heap.size (w.heap.size + 1) (s00 7 z0 z0 nS nS nS (.slice a1 (is).length b1) (.slice a5 (fs).length b5) nS nS ((-1)) 0) w (w6.setCell ⟨(w.heap.size + 1), 7, none⟩ (.slice a5 (fs).length b5)) (t2) ⟨7, [], [], [], [], [], is, fs, noE, [], noE, [], -1, 0⟩ nS nS nS (.slice a1 (is).length b1) (.slice a5 (fs).length b5) nS nS nS nS) := Lib.hid (by rw [HS6.out]; exact F7.out.set _)
  go_wp2_with fail
  refine (hW _ F8.out.z.rd).mono ?_
  rintro e w9 ⟨v8, rfl, hs, hr, hq⟩
  obtain ⟨a8, n8, b8, hu⟩ := hs.slice
  subst hu
  have F9 : Hid (Fs N B w.heap.size (w.heap.size + 1) (s00 7 z0 z0 nS nS nS (.slice a1 (is).length b1) (.slice a5 (fs).length b5) nS nS ((-1)) 0) w w9 (t3) ⟨7, [], [], [], [], [], is, fs, x1, [], noE, [], -1, 0⟩ nS nS nS (.slice a1 (is).length b1) (.slice a5 (fs).length b5) (.slice a8 n8 b8) nS nS nS) := Lib.hid ((F8.out.call hr hq).cond (e := x1) (F8.out.gotX hs))
  obtain ⟨w10, hw10⟩ : ∃ w10, w10 = w9.setRow (w.heap.size + 1) (s10 7 z0 z0 nS nS nS (.slice a1 (is).length b1) (.slice a5 (fs).length b5) x1.a (.slice a8 n8 b8) nS nS ((-1)) 0) := ⟨_, rfl⟩
  have F10 : Hid (Fs N B w.heap.size (w.heap.size + 1) (s10 7 z0 z0 nS nS nS (.slice a1 (is).length b1) (.slice a5 (fs).length b5) x1.a (.slice a8 n8 b8) nS nS ((-1)) 0) w w10 (t3) ⟨7, [], [], [], [], [], is, fs, x1, [], noE, [], -1, 0⟩ nS nS nS (.slice a1 (is).length b1) (.slice a5 (fs).length b5) (.slice a8 n8 b8) nS nS nS) := Lib.hid (by rw [hw10]; exact F9.out.set _)
  clear hs hr hq
  unfold exVal
  go_wp2_with (first
    | (refine wpList_store_field rfl 36 _ _ rfl (w.heap.size + 1) 8 (eA x1.a (.slice a8 n8 b8)) rfl rfl _ _ F9.out.blk (by kernel_rfl) (by simp [Value.oneCell']) (by simp) (s10 7 z0 z0 nS nS nS (.slice a1 (is).length b1) (.slice a5 (fs).length b5) x1.a (.slice a8 n8 b8) nS nS ((-1)) 0) rfl ?_; rw [← hw10]; clear hw10))
  refine (hG _ F10.out.z.rd).mono ?_
  rintro e w11 ⟨rfl, hr, hq⟩
  have F11 := Lib.hid (F10.out.call hr hq)
  clear hr hq
  go_wp2_with fail
  refine (hO _ F11.out.z.rd).mono ?_
  rintro e w12 ⟨rfl, hr, hq⟩
  have F12 := Lib.hid (F11.out.call hr hq)
  clear hr hq
  go_wp2_with fail
  refine (take_yes N B t8 ⟨#[108, 105, 109, 105, 116]⟩ _ F12.out.z.rd hb (by decide)).mono ?_
  rintro e w13 ⟨rfl, hr, hq⟩
  have F13 := Lib.hid (F12.out.call hr hq)
  clear hr hq
  go_wp2_with fail
  refine (hK _ F13.out.z.rd).mono ?_
  rintro e w14 ⟨rfl, hr, hq⟩
  have F14 := Lib.hid (F13.out.call hr hq)
  clear hr hq
  have F15 : Hid (Fs N B w.heap.size (w.heap.size + 1) (s10 7 z0 z0 nS nS nS (.slice a1 (is).length b1) (.slice a5 (fs).length b5) x1.a (.slice a8 n8 b8) nS nS ((-1)) 0) w w14 (t9) ⟨7, [], [], [], [], [], is, fs, x1, [], noE, [], (k : Int), 0⟩ nS nS nS (.slice a1 (is).length b1) (.slice a5 (fs).length b5) (.slice a8 n8 b8) nS nS nS) := Lib.hid (F14.out.limit (k : Int))
  have c14 : w14.cell? ⟨(w.heap.size + 1), 28, none⟩ = some (.int .i64 (-1)) := bk_cell F15.out.blk 28
  have z14 : w14.frozen? ⟨(w.heap.size + 1), 28, none⟩ = false := bk_free F15.out.blk 28
  have HS14 : Hid ((w14.setCell ⟨(w.heap.size + 1), 28, none⟩ (.int .i64 (k : Int))) = w14.setRow (w.heap.size + 1) (s10 7 z0 z0 nS nS nS (.slice a1 (is).length b1) (.slice a5 (fs).length b5) x1.a (.slice a8 n8 b8) nS nS ((k : Int)) 0)) := Lib.hid ((setCell_eq_setRow w14 (w.heap.size + 1) 28 _ _ _ (.int .i64 (k : Int)) F15.out.blk).trans (congrArg (w14.setRow (w.heap.size + 1)) rfl))
  have F16 : Hid (Fs N B w.heap.size (w.heap.size + 1) (s10 7 z0 z0 nS nS nS (.slice a1 (is).length b1) (.slice a5 (fs).length b5) x1.a (.slice a8 n8 b8) nS nS ((k : Int)) 0) w (w14.setCell ⟨(w.heap.size + 1), 28, none⟩ (.int .i64 (k : Int))) (t9) ⟨7, [], [], [], [], [], is, fs, x1, [], noE, [], (k : Int), 0⟩ nS nS nS (.slice a1 (is).length b1) (.slice a5 (fs).length b5) (.slice a8 n8 b8) nS nS nS) := Lib.hid (by rw [HS14.out]; exact F15.out.set _)
  go_wp2_with fail
  refine (take_yes N B t9 ⟨#[111, 102, 102, 115, 101, 116]⟩ _ F16.out.z.rd hc (by decide)).mono ?_
  rintro e w17 ⟨rfl, hr, hq⟩
  have F17 := Lib.hid (F16.out.call hr hq)
  clear hr hq
  go_wp2_with fail
  refine (hM _ F17.out.z.rd).mono ?_
  rintro e w18 ⟨rfl, hr, hq⟩
  have F18 := Lib.hid (F17.out.call hr hq)
  clear hr hq
  have F19 : Hid (Fs N B w.heap.size (w.heap.size + 1) (s10 7 z0 z0 nS nS nS (.slice a1 (is).length b1) (.slice a5 (fs).length b5) x1.a (.slice a8 n8 b8) nS nS ((k : Int)) 0) w w18 (t10) ⟨7, [], [], [], [], [], is, fs, x1, [], noE, [], (k : Int), (k2 : Int)⟩ nS nS nS (.slice a1 (is).length b1) (.slice a5 (fs).length b5) (.slice a8 n8 b8) nS nS nS) := Lib.hid (F18.out.skip (k2 : Int))
  have c18 : w18.cell? ⟨(w.heap.size + 1), 29, none⟩ = some (.int .i64 0) := bk_cell F19.out.blk 29
  have z18 : w18.frozen? ⟨(w.heap.size + 1), 29, none⟩ = false := bk_free F19.out.blk 29
  have HS18 : Hid ((w18.setCell ⟨(w.heap.size + 1), 29, none⟩ (.int .i64 (k2 : Int))) = w18.setRow (w.heap.size + 1) (s10 7 z0 z0 nS nS nS (.slice a1 (is).length b1) (.slice a5 (fs).length b5) x1.a (.slice a8 n8 b8) nS nS ((k : Int)) ((k2 : Int)))) := Lib.hid ((setCell_eq_setRow w18 (w.heap.size + 1) 29 _ _ _ (.int .i64 (k2 : Int)) F19.out.blk).trans (congrArg (w18.setRow (w.heap.size + 1)) rfl))
  have F20 : Hid (Fs N B w.heap.size (w.heap.size + 1) (s10 7 z0 z0 nS nS nS (.slice a1 (is).length b1) (.slice a5 (fs).length b5) x1.a (.slice a8 n8 b8) nS nS ((k : Int)) ((k2 : Int))) w (w18.setCell ⟨(w.heap.size + 1), 29, none⟩ (.int .i64 (k2 : Int))) (t10) ⟨7, [], [], [], [], [], is, fs, x1, [], noE, [], (k : Int), (k2 : Int)⟩ nS nS nS (.slice a1 (is).length b1) (.slice a5 (fs).length b5) (.slice a8 n8 b8) nS nS nS) := Lib.hid (by rw [HS18.out]; exact F19.out.set _)
  go_wp2_with (first
    | (refine wpList_load_row rfl 39 _ rfl (w.heap.size + 1) rfl _ (s10 7 z0 z0 nS nS nS (.slice a1 (is).length b1) (.slice a5 (fs).length b5) x1.a (.slice a8 n8 b8) nS nS ((k : Int)) ((k2 : Int))) (0, 0) _ F20.out.blk Tryz.underlying39 rfl (by kernel_rfl) ?_)
    | (refine wpList_store_row rfl 39 _ _ rfl w.heap.size (s10 7 z0 z0 nS nS nS (.slice a1 (is).length b1) (.slice a5 (fs).length b5) x1.a (.slice a8 n8 b8) nS nS ((k : Int)) ((k2 : Int))) rfl rfl _ _ F20.out.z.res (by kernel_rfl) rfl (by simp [Value.oneCell']) ?_))
  refine bodyPost_ret (results_cell_row Tryz.results55 _ _ w.heap.size 39 (s10 7 z0 z0 nS nS nS (.slice a1 (is).length b1) (.slice a5 (fs).length b5) x1.a (.slice a8 n8 b8) nS nS ((k : Int)) ((k2 : Int))) (0, 0) _ rfl (setRow_heap _ _ _ _ _ _ F20.out.z.res) Tryz.underlying39 rfl (by kernel_rfl)) rfl ?_
  exact F20.out.done rfl
set_option maxRecDepth 100000 in
set_option maxHeartbeats 8000000 in
theorem select_010 (N B n : Nat) (hn : n ≤ 900000) (self : St → Ex × St) (hself : ReadsX N B n 35 self) (hle : Le self) (t : St) (w : World) (h : RdAt N w B t) (ht : t.rest.length ≤ n) (is : List ItemM) (fs : List FromM) (x1 : Ex) (t1 t2 t3 t4 t5 t6 t7 t8 t9 t10 : St) (gs : List Ex) (x2 : Ex) (os : List OrderM) (k k2 : Nat) (e1 : itemsP self t = (is, t1)) (e2 : tablesP self (t1.need wFrom) = (fs, t2)) (e3 : condP self wWhere t2 = (x1, t3)) (e4 : phraseP wGroup wBy t3 = (false, t6)) (e7 : phraseP wOrder wBy t6 = (true, t7)) (e8 : listP (orderP self) t7 = (os, t8)) (hb : t8.has wLimit = false) :
    Calls Tryz.prog 55 #[.pointer (some ⟨B, 0, none⟩)] w (GivesS N B (⟨7, [], [], [], [], [], is, fs, x1, [], noE, os, -1, 0⟩, t8) w) := by
  have hmf : ∀ (fn : Fn) (first cap : Array Value) (w : World), (Instr.makeFunc fn first cap).run Tryz.prog w = .ok (.func fn first cap) w := fun _ _ _ _ => rfl
  have F0 : Hid (Fz N B w.heap.size 39 (s00 0 z0 z0 nS nS nS nS nS nS nS 0 0) w (w.alloc (.cells (s00 0 z0 z0 nS nS nS nS nS nS nS 0 0) 39)) t) := Lib.hid (Fz.start 39 (s00 0 z0 z0 nS nS nS nS nS nS nS 0 0) h)
  have hI := fun w h => items_tr N B n hn self hself hle t w h ht
  unfold GivesL at hI; rw [e1] at hI; dsimp only at hI
  have HL1 : Hid (t1.rest.length ≤ n) := Lib.hid (by have a := itemsP_le hle t; rw [e1] at a; dsimp only at a; skip; omega)
  have hT := fun w h => tables_tr N B n hn self hself hle (t1.need wFrom) w h (by have b := St.need_le t1 wFrom; have c := HL1.out; omega)
  unfold GivesL at hT; rw [e2] at hT; dsimp only at hT
  have HL2 : Hid (t2.rest.length ≤ n) := Lib.hid (by have a := tablesP_le hle (t1.need wFrom); rw [e2] at a; dsimp only at a; have b := St.need_le t1 wFrom; have c := HL1.out; omega)
  have hW := fun w h => condition_tr N B n self hself ⟨#[119, 104, 101, 114, 101]⟩ (by decide) t2 w h HL2.out
  rw [show condP self (⟨#[119, 104, 101, 114, 101]⟩ : ByteArray).data.toList t2 = condP self wWhere t2 from rfl] at hW
  unfold GivesX at hW; rw [e3] at hW; dsimp only at hW
  have HL3 : Hid (t3.rest.length ≤ n) := Lib.hid (by have a := condP_le hle wWhere t2; rw [e3] at a; dsimp only at a; have c := HL2.out; omega)
  have hG := fun w h => phrase_tr N B ⟨#[103, 114, 111, 117, 112]⟩ ⟨#[98, 121]⟩ (by decide) (by decide) t3 w h
  rw [show phraseP (⟨#[103, 114, 111, 117, 112]⟩ : ByteArray).data.toList (⟨#[98, 121]⟩ : ByteArray).data.toList t3 = phraseP wGroup wBy t3 from rfl, e4] at hG; dsimp only at hG
  have HL6 : Hid (t6.rest.length ≤ n) := Lib.hid (by have a := phraseP_le wGroup wBy t3; rw [e4] at a; dsimp only at a; have c := HL3.out; omega)
  have hO := fun w h => phrase_tr N B ⟨#[111, 114, 100, 101, 114]⟩ ⟨#[98, 121]⟩ (by decide) (by decide) t6 w h
  rw [show phraseP (⟨#[111, 114, 100, 101, 114]⟩ : ByteArray).data.toList (⟨#[98, 121]⟩ : ByteArray).data.toList t6 = phraseP wOrder wBy t6 from rfl, e7] at hO; dsimp only at hO
  have HL7 : Hid (t7.rest.length ≤ n) := Lib.hid (by have a := phraseP_le wOrder wBy t6; rw [e7] at a; dsimp only at a; have c := HL6.out; omega)
  have hD := fun w h => listOrder_tr N B n 101 hn (fun _ _ => by kernel_rfl) (orderP self) (order_tr N B n self hself hle) (orderP_le hle) t7 w h HL7.out
  unfold GivesL at hD; rw [e8] at hD; dsimp only at hD
  clear h e1 e2 e3 e4 e7 e8
  go_enter Tryz.func55, Tryz.ntmps55
  obtain ⟨w1, hw1⟩ : ∃ w1, w1 = ((w.alloc (.cells (s00 0 z0 z0 nS nS nS nS nS nS nS 0 0) 39)).alloc (.cells (s00 0 z0 z0 nS nS nS nS nS nS nS 0 0) 39)).setRow (w.heap.size + 1) (s00 7 z0 z0 nS nS nS nS nS nS nS ((-1)) 0) := ⟨_, rfl⟩
  have F1 : Hid (Fs N B w.heap.size (w.heap.size + 1) (s00 7 z0 z0 nS nS nS nS nS nS nS ((-1)) 0) w w1 (t) ⟨7, [], [], [], [], [], [], [], noE, [], noE, [], -1, 0⟩ nS nS nS nS nS nS nS nS nS) := Lib.hid (by rw [hw1]; exact Fs.begin F0.out (s00 7 z0 z0 nS nS nS nS nS nS nS ((-1)) 0) _ rfl)
  have ZX : Hid (((w.alloc (.cells (s00 0 z0 z0 nS nS nS nS nS nS nS 0 0) 39)).alloc (.cells (s00 0 z0 z0 nS nS nS nS nS nS nS 0 0) 39)).heap[w.heap.size + 1]? = some (.cells (s00 0 z0 z0 nS nS nS nS nS nS nS 0 0) 39 (0, 0))) := Lib.hid Fs.begin0
  go_wp2_with (first
    | (refine wpList_store_row rfl 39 _ _ rfl (w.heap.size + 1) (s00 7 z0 z0 nS nS nS nS nS nS nS ((-1)) 0) rfl rfl _ _ ZX.out (by kernel_rfl) rfl (by simp [Value.oneCell']) ?_; rw [← hw1]; clear hw1))
  refine (hI _ F1.out.z.rd).mono ?_
  rintro e w2 ⟨v1, rfl, hrow, hr, hq⟩
  obtain ⟨a1, b1, hv, _⟩ := hrow.slice
  subst hv
  have F2 := Lib.hid (F1.out.call hr hq)
  have Q2 := Lib.hid (F1.out.gotL hrow)
  clear hrow hr hq
  have F3 : Hid (Fs N B w.heap.size (w.heap.size + 1) (s00 7 z0 z0 nS nS nS nS nS nS nS ((-1)) 0) w w2 (t1) ⟨7, [], [], [], [], [], is, [], noE, [], noE, [], -1, 0⟩ nS nS nS (.slice a1 (is).length b1) nS nS nS nS nS) := Lib.hid (F2.out.items Q2.out)
  have c2 : w2.cell? ⟨(w.heap.size + 1), 6, none⟩ = some nS := bk_cell F3.out.blk 6
  have z2 : w2.frozen? ⟨(w.heap.size + 1), 6, none⟩ = false := bk_free F3.out.blk 6
  have HS2 : Hid ((w2.setCell ⟨(w.heap.size + 1), 6, none⟩ (.slice a1 (is).length b1)) = w2.setRow (w.heap.size + 1) (s00 7 z0 z0 nS nS nS (.slice a1 (is).length b1) nS nS nS ((-1)) 0)) := Lib.hid ((setCell_eq_setRow w2 (w.heap.size + 1) 6 _ _ _ (.slice a1 (is).length b1) F3.out.blk).trans (congrArg (w2.setRow (w.heap.size + 1)) rfl))
  have F4 : Hid (Fs N B w.heap.size (w.heap.size + 1) (s00 7 z0 z0 nS nS nS (.slice a1 (is).length b1) nS nS nS ((-1)) 0) w (w2.setCell ⟨(w.heap.size + 1), 6, none⟩ (.slice a1 (is).length b1)) (t1) ⟨7, [], [], [], [], [], is, [], noE, [], noE, [], -1, 0⟩ nS nS nS (.slice a1 (is).length b1) nS nS nS nS nS) := Lib.hid (by rw [HS2.out]; exact F3.out.set _)
  go_wp2_with fail
  refine (need_any N B t1 ⟨#[102, 114, 111, 109]⟩ _ F4.out.z.rd (by decide)).mono ?_
  rintro e w5 ⟨rfl, hr, hq⟩
  have F5 := Lib.hid (F4.out.call hr hq)
  clear hr hq
  go_wp2_with fail
  refine (hT _ F5.out.z.rd).mono ?_
  rintro e w6 ⟨v5, rfl, hrow, hr, hq⟩
  obtain ⟨a5, b5, hv, _⟩ := hrow.slice
  subst hv
  have F6 := Lib.hid (F5.out.call hr hq)
  have Q6 := Lib.hid (F5.out.gotL hrow)
  clear hrow hr hq
  have F7 : Hid (Fs N B w.heap.size (w.heap.size + 1) (s00 7 z0 z0 nS nS nS (.slice a1 (is).length b1) nS nS nS ((-1)) 0) w w6 (t2) ⟨7, [], [], [], [], [], is, fs, noE, [], noE, [], -1, 0⟩ nS nS nS (.slice a1 (is).length b1) (.slice a5 (fs).length b5) nS nS nS nS) := Lib.hid (F6.out.tables Q6.out)
  have c6 : w6.cell? ⟨(w.heap.size + 1), 7, none⟩ = some nS := bk_cell F7.out.blk 7
  have z6 : w6.frozen? ⟨(w.heap.size + 1), 7, none⟩ = false := bk_free F7.out.blk 7
  have HS6 : Hid ((w6.setCell ⟨(w.heap.size + 1), 7, none⟩ (.slice a5 (fs).length b5)) = w6.setRow (w.heap.size + 1) (s00 7 z0 z0 nS nS nS (.slice a1 (is).length b1) (.slice a5 (fs).length b5) nS nS ((-1)) 0)) := Lib.hid ((setCell_eq_setRow w6 (w.heap.size + 1) 7 _ _ _ (.slice a5 (fs).length b5) F7.out.blk).trans (congrArg (w6.setRow (w.heap.size + 1)) rfl))
  have F8 : Hid (Fs N B w.heap.size (w.heap.size + 1) (s00 7 z0 z0 nS nS nS (.slice a1 (is).length b1) (.slice a5 (fs).length b5) nS nS ((-1)) 0) w (w6.setCell ⟨(w.heap.size + 1), 7, none⟩ (.slice a5 (fs).length b5)) (t2) ⟨7, [], [], [], [], [], is, fs, noE, [], noE, [], -1, 0⟩ nS nS nS (.slice a1 (is).length b1) (.slice a5 (fs).length b5) nS nS nS nS) := Lib.hid (by rw [HS6.out]; exact F7.out.set _)
  go_wp2_with fail
  refine (hW _ F8.out.z.rd).mono ?_
  rintro e w9 ⟨v8, rfl, hs, hr, hq⟩
  obtain ⟨a8, n8, b8, hu⟩ := hs.slice
  subst hu
  have F9 : Hid (Fs N B w.heap.size (w.heap.size + 1) (s00 7 z0 z0 nS nS nS (.slice a1 (is).length b1) (.slice a5 (fs).length b5) nS nS ((-1)) 0) w w9 (t3) ⟨7, [], [], [], [], [], is, fs, x1, [], noE, [], -1, 0⟩ nS nS nS (.slice a1 (is).length b1) (.slice a5 (fs).length b5) (.slice a8 n8 b8) nS nS nS) := Lib.hid ((F8.out.call hr hq).cond (e := x1) (F8.out.gotX hs))
  obtain ⟨w10, hw10⟩ : ∃ w10, w10 = w9.setRow (w.heap.size + 1) (s10 7 z0 z0 nS nS nS (.slice a1 (is).length b1) (.slice a5 (fs).length b5) x1.a (.slice a8 n8 b8) nS nS ((-1)) 0) := ⟨_, rfl⟩
  have F10 : Hid (Fs N B w.heap.size (w.heap.size + 1) (s10 7 z0 z0 nS nS nS (.slice a1 (is).length b1) (.slice a5 (fs).length b5) x1.a (.slice a8 n8 b8) nS nS ((-1)) 0) w w10 (t3) ⟨7, [], [], [], [], [], is, fs, x1, [], noE, [], -1, 0⟩ nS nS nS (.slice a1 (is).length b1) (.slice a5 (fs).length b5) (.slice a8 n8 b8) nS nS nS) := Lib.hid (by rw [hw10]; exact F9.out.set _)
  clear hs hr hq
  unfold exVal
  go_wp2_with (first
    | (refine wpList_store_field rfl 36 _ _ rfl (w.heap.size + 1) 8 (eA x1.a (.slice a8 n8 b8)) rfl rfl _ _ F9.out.blk (by kernel_rfl) (by simp [Value.oneCell']) (by simp) (s10 7 z0 z0 nS nS nS (.slice a1 (is).length b1) (.slice a5 (fs).length b5) x1.a (.slice a8 n8 b8) nS nS ((-1)) 0) rfl ?_; rw [← hw10]; clear hw10))
  refine (hG _ F10.out.z.rd).mono ?_
  rintro e w11 ⟨rfl, hr, hq⟩
  have F11 := Lib.hid (F10.out.call hr hq)
  clear hr hq
  go_wp2_with fail
  refine (hO _ F11.out.z.rd).mono ?_
  rintro e w12 ⟨rfl, hr, hq⟩
  have F12 := Lib.hid (F11.out.call hr hq)
  clear hr hq
  go_wp2_with fail
  refine (hD _ F12.out.z.rd).mono ?_
  rintro e w13 ⟨v12, rfl, hrow, hr, hq⟩
  obtain ⟨a12, b12, hv, _⟩ := hrow.slice
  subst hv
  have F13 := Lib.hid (F12.out.call hr hq)
  have Q13 := Lib.hid (F12.out.gotL hrow)
  clear hrow hr hq
  have F14 : Hid (Fs N B w.heap.size (w.heap.size + 1) (s10 7 z0 z0 nS nS nS (.slice a1 (is).length b1) (.slice a5 (fs).length b5) x1.a (.slice a8 n8 b8) nS nS ((-1)) 0) w w13 (t8) ⟨7, [], [], [], [], [], is, fs, x1, [], noE, os, -1, 0⟩ nS nS nS (.slice a1 (is).length b1) (.slice a5 (fs).length b5) (.slice a8 n8 b8) nS nS (.slice a12 (os).length b12)) := Lib.hid (F13.out.order Q13.out)
  have c13 : w13.cell? ⟨(w.heap.size + 1), 27, none⟩ = some nS := bk_cell F14.out.blk 27
  have z13 : w13.frozen? ⟨(w.heap.size + 1), 27, none⟩ = false := bk_free F14.out.blk 27
  have HS13 : Hid ((w13.setCell ⟨(w.heap.size + 1), 27, none⟩ (.slice a12 (os).length b12)) = w13.setRow (w.heap.size + 1) (s10 7 z0 z0 nS nS nS (.slice a1 (is).length b1) (.slice a5 (fs).length b5) x1.a (.slice a8 n8 b8) nS (.slice a12 (os).length b12) ((-1)) 0)) := Lib.hid ((setCell_eq_setRow w13 (w.heap.size + 1) 27 _ _ _ (.slice a12 (os).length b12) F14.out.blk).trans (congrArg (w13.setRow (w.heap.size + 1)) rfl))
  have F15 : Hid (Fs N B w.heap.size (w.heap.size + 1) (s10 7 z0 z0 nS nS nS (.slice a1 (is).length b1) (.slice a5 (fs).length b5) x1.a (.slice a8 n8 b8) nS (.slice a12 (os).length b12) ((-1)) 0) w (w13.setCell ⟨(w.heap.size + 1), 27, none⟩ (.slice a12 (os).length b12)) (t8) ⟨7, [], [], [], [], [], is, fs, x1, [], noE, os, -1, 0⟩ nS nS nS (.slice a1 (is).length b1) (.slice a5 (fs).length b5) (.slice a8 n8 b8) nS nS (.slice a12 (os).length b12)) := Lib.hid (by rw [HS13.out]; exact F14.out.set _)
  go_wp2_with fail
  refine (take_no N B t8 ⟨#[108, 105, 109, 105, 116]⟩ _ F15.out.z.rd hb).mono ?_
  rintro e w16 ⟨rfl, hr, hb15⟩
  have F16 := Lib.hid (F15.out.new hb15)
  clear hr hb15
  go_wp2_with (first
    | (refine wpList_load_row rfl 39 _ rfl (w.heap.size + 1) rfl _ (s10 7 z0 z0 nS nS nS (.slice a1 (is).length b1) (.slice a5 (fs).length b5) x1.a (.slice a8 n8 b8) nS (.slice a12 (os).length b12) ((-1)) 0) (0, 0) _ F16.out.blk Tryz.underlying39 rfl (by kernel_rfl) ?_)
    | (refine wpList_store_row rfl 39 _ _ rfl w.heap.size (s10 7 z0 z0 nS nS nS (.slice a1 (is).length b1) (.slice a5 (fs).length b5) x1.a (.slice a8 n8 b8) nS (.slice a12 (os).length b12) ((-1)) 0) rfl rfl _ _ F16.out.z.res (by kernel_rfl) rfl (by simp [Value.oneCell']) ?_))
  refine bodyPost_ret (results_cell_row Tryz.results55 _ _ w.heap.size 39 (s10 7 z0 z0 nS nS nS (.slice a1 (is).length b1) (.slice a5 (fs).length b5) x1.a (.slice a8 n8 b8) nS (.slice a12 (os).length b12) ((-1)) 0) (0, 0) _ rfl (setRow_heap _ _ _ _ _ _ F16.out.z.res) Tryz.underlying39 rfl (by kernel_rfl)) rfl ?_
  exact F16.out.done rfl
set_option maxRecDepth 100000 in
set_option maxHeartbeats 8000000 in
theorem select_011 (N B n : Nat) (hn : n ≤ 900000) (self : St → Ex × St) (hself : ReadsX N B n 35 self) (hle : Le self) (t : St) (w : World) (h : RdAt N w B t) (ht : t.rest.length ≤ n) (is : List ItemM) (fs : List FromM) (x1 : Ex) (t1 t2 t3 t4 t5 t6 t7 t8 t9 t10 : St) (gs : List Ex) (x2 : Ex) (os : List OrderM) (k k2 : Nat) (e1 : itemsP self t = (is, t1)) (e2 : tablesP self (t1.need wFrom) = (fs, t2)) (e3 : condP self wWhere t2 = (x1, t3)) (e4 : phraseP wGroup wBy t3 = (false, t6)) (e7 : phraseP wOrder wBy t6 = (true, t7)) (e8 : listP (orderP self) t7 = (os, t8)) (hb : t8.has wLimit = true) (e9 : numberP t8.step = (k, t9)) (hc : t9.has wOffset = false) :
    Calls Tryz.prog 55 #[.pointer (some ⟨B, 0, none⟩)] w (GivesS N B (⟨7, [], [], [], [], [], is, fs, x1, [], noE, os, (k : Int), 0⟩, t9) w) := by
  have hmf : ∀ (fn : Fn) (first cap : Array Value) (w : World), (Instr.makeFunc fn first cap).run Tryz.prog w = .ok (.func fn first cap) w := fun _ _ _ _ => rfl
  have F0 : Hid (Fz N B w.heap.size 39 (s00 0 z0 z0 nS nS nS nS nS nS nS 0 0) w (w.alloc (.cells (s00 0 z0 z0 nS nS nS nS nS nS nS 0 0) 39)) t) := Lib.hid (Fz.start 39 (s00 0 z0 z0 nS nS nS nS nS nS nS 0 0) h)
  have hI := fun w h => items_tr N B n hn self hself hle t w h ht
  unfold GivesL at hI; rw [e1] at hI; dsimp only at hI
  have HL1 : Hid (t1.rest.length ≤ n) := Lib.hid (by have a := itemsP_le hle t; rw [e1] at a; dsimp only at a; skip; omega)
  have hT := fun w h => tables_tr N B n hn self hself hle (t1.need wFrom) w h (by have b := St.need_le t1 wFrom; have c := HL1.out; omega)
  unfold GivesL at hT; rw [e2] at hT; dsimp only at hT
  have HL2 : Hid (t2.rest.length ≤ n) := Lib.hid (by have a := tablesP_le hle (t1.need wFrom); rw [e2] at a; dsimp only at a; have b := St.need_le t1 wFrom; have c := HL1.out; omega)
  have hW := fun w h => condition_tr N B n self hself ⟨#[119, 104, 101, 114, 101]⟩ (by decide) t2 w h HL2.out
  rw [show condP self (⟨#[119, 104, 101, 114, 101]⟩ : ByteArray).data.toList t2 = condP self wWhere t2 from rfl] at hW
  unfold GivesX at hW; rw [e3] at hW; dsimp only at hW
  have HL3 : Hid (t3.rest.length ≤ n) := Lib.hid (by have a := condP_le hle wWhere t2; rw [e3] at a; dsimp only at a; have c := HL2.out; omega)
  have hG := fun w h => phrase_tr N B ⟨#[103, 114, 111, 117, 112]⟩ ⟨#[98, 121]⟩ (by decide) (by decide) t3 w h
  rw [show phraseP (⟨#[103, 114, 111, 117, 112]⟩ : ByteArray).data.toList (⟨#[98, 121]⟩ : ByteArray).data.toList t3 = phraseP wGroup wBy t3 from rfl, e4] at hG; dsimp only at hG
  have HL6 : Hid (t6.rest.length ≤ n) := Lib.hid (by have a := phraseP_le wGroup wBy t3; rw [e4] at a; dsimp only at a; have c := HL3.out; omega)
  have hO := fun w h => phrase_tr N B ⟨#[111, 114, 100, 101, 114]⟩ ⟨#[98, 121]⟩ (by decide) (by decide) t6 w h
  rw [show phraseP (⟨#[111, 114, 100, 101, 114]⟩ : ByteArray).data.toList (⟨#[98, 121]⟩ : ByteArray).data.toList t6 = phraseP wOrder wBy t6 from rfl, e7] at hO; dsimp only at hO
  have HL7 : Hid (t7.rest.length ≤ n) := Lib.hid (by have a := phraseP_le wOrder wBy t6; rw [e7] at a; dsimp only at a; have c := HL6.out; omega)
  have hD := fun w h => listOrder_tr N B n 101 hn (fun _ _ => by kernel_rfl) (orderP self) (order_tr N B n self hself hle) (orderP_le hle) t7 w h HL7.out
  unfold GivesL at hD; rw [e8] at hD; dsimp only at hD
  have hK := fun w h => number_tr N B t8.step w h
  rw [e9] at hK; dsimp only at hK
  clear h e1 e2 e3 e4 e7 e8 e9
  go_enter Tryz.func55, Tryz.ntmps55
  obtain ⟨w1, hw1⟩ : ∃ w1, w1 = ((w.alloc (.cells (s00 0 z0 z0 nS nS nS nS nS nS nS 0 0) 39)).alloc (.cells (s00 0 z0 z0 nS nS nS nS nS nS nS 0 0) 39)).setRow (w.heap.size + 1) (s00 7 z0 z0 nS nS nS nS nS nS nS ((-1)) 0) := ⟨_, rfl⟩
  have F1 : Hid (Fs N B w.heap.size (w.heap.size + 1) (s00 7 z0 z0 nS nS nS nS nS nS nS ((-1)) 0) w w1 (t) ⟨7, [], [], [], [], [], [], [], noE, [], noE, [], -1, 0⟩ nS nS nS nS nS nS nS nS nS) := Lib.hid (by rw [hw1]; exact Fs.begin F0.out (s00 7 z0 z0 nS nS nS nS nS nS nS ((-1)) 0) _ rfl)
  have ZX : Hid (((w.alloc (.cells (s00 0 z0 z0 nS nS nS nS nS nS nS 0 0) 39)).alloc (.cells (s00 0 z0 z0 nS nS nS nS nS nS nS 0 0) 39)).heap[w.heap.size + 1]? = some (.cells (s00 0 z0 z0 nS nS nS nS nS nS nS 0 0) 39 (0, 0))) := Lib.hid Fs.begin0
  go_wp2_with (first
    | (refine wpList_store_row rfl 39 _ _ rfl (w.heap.size + 1) (s00 7 z0 z0 nS nS nS nS nS nS nS ((-1)) 0) rfl rfl _ _ ZX.out (by kernel_rfl) rfl (by simp [Value.oneCell']) ?_; rw [← hw1]; clear hw1))
  refine (hI _ F1.out.z.rd).mono ?_
  rintro e w2 ⟨v1, rfl, hrow, hr, hq⟩
  obtain ⟨a1, b1, hv, _⟩ := hrow.slice
  subst hv
  have F2 := Lib.hid (F1.out.call hr hq)
  have Q2 := Lib.hid (F1.out.gotL hrow)
  clear hrow hr hq
  have F3 : Hid (Fs N B w.heap.size (w.heap.size + 1) (s00 7 z0 z0 nS nS nS nS nS nS nS ((-1)) 0) w w2 (t1) ⟨7, [], [], [], [], [], is, [], noE, [], noE, [], -1, 0⟩ nS nS nS (.slice a1 (is).length b1) nS nS nS nS nS) := Lib.hid (F2.out.items Q2.out)
  have c2 : w2.cell? ⟨(w.heap.size + 1), 6, none⟩ = some nS := bk_cell F3.out.blk 6
  have z2 : w2.frozen? ⟨(w.heap.size + 1), 6, none⟩ = false := bk_free F3.out.blk 6
  have HS2 : Hid ((w2.setCell ⟨(w.heap.size + 1), 6, none⟩ (.slice a1 (is).length b1)) = w2.setRow (w.heap.size + 1) (s00 7 z0 z0 nS nS nS (.slice a1 (is).length b1) nS nS nS ((-1)) 0)) := Lib.hid ((setCell_eq_setRow w2 (w.heap.size + 1) 6 _ _ _ (.slice a1 (is).length b1) F3.out.blk).trans (congrArg (w2.setRow (w.heap.size + 1)) rfl))
  have F4 : Hid (Fs N B w.heap.size (w.heap.size + 1) (s00 7 z0 z0 nS nS nS (.slice a1 (is).length b1) nS nS nS ((-1)) 0) w (w2.setCell ⟨(w.heap.size + 1), 6, none⟩ (.slice a1 (is).length b1)) (t1) ⟨7, [], [], [], [], [], is, [], noE, [], noE, [], -1, 0⟩ nS nS nS (.slice a1 (is).length b1) nS nS nS nS nS) := Lib.hid (by rw [HS2.out]; exact F3.out.set _)
  go_wp2_with fail
  refine (need_any N B t1 ⟨#[102, 114, 111, 109]⟩ _ F4.out.z.rd (by decide)).mono ?_
  rintro e w5 ⟨rfl, hr, hq⟩
  have F5 := Lib.hid (F4.out.call hr hq)
  clear hr hq
  go_wp2_with fail
  refine (hT _ F5.out.z.rd).mono ?_
  rintro e w6 ⟨v5, rfl, hrow, hr, hq⟩
  obtain ⟨a5, b5, hv, _⟩ := hrow.slice
  subst hv
  have F6 := Lib.hid (F5.out.call hr hq)
  have Q6 := Lib.hid (F5.out.gotL hrow)
  clear hrow hr hq
  have F7 : Hid (Fs N B w.heap.size (w.heap.size + 1) (s00 7 z0 z0 nS nS nS (.slice a1 (is).length b1) nS nS nS ((-1)) 0) w w6 (t2) ⟨7, [], [], [], [], [], is, fs, noE, [], noE, [], -1, 0⟩ nS nS nS (.slice a1 (is).length b1) (.slice a5 (fs).length b5) nS nS nS nS) := Lib.hid (F6.out.tables Q6.out)
  have c6 : w6.cell? ⟨(w.heap.size + 1), 7, none⟩ = some nS := bk_cell F7.out.blk 7
  have z6 : w6.frozen? ⟨(w.heap.size + 1), 7, none⟩ = false := bk_free F7.out.blk 7
  have HS6 : Hid ((w6.setCell ⟨(w.heap.size + 1), 7, none⟩ (.slice a5 (fs).length b5)) = w6.setRow (w.heap.size + 1) (s00 7 z0 z0 nS nS nS (.slice a1 (is).length b1) (.slice a5 (fs).length b5) nS nS ((-1)) 0)) := Lib.hid ((setCell_eq_setRow w6 (w.heap.size + 1) 7 _ _ _ (.slice a5 (fs).length b5) F7.out.blk).trans (congrArg (w6.setRow (w.heap.size + 1)) rfl))
  have F8 : Hid (Fs N B w.heap.size (w.heap.size + 1) (s00 7 z0 z0 nS nS nS (.slice a1 (is).length b1) (.slice a5 (fs).length b5) nS nS ((-1)) 0) w (w6.setCell ⟨(w.heap.size + 1), 7, none⟩ (.slice a5 (fs).length b5)) (t2) ⟨7, [], [], [], [], [], is, fs, noE, [], noE, [], -1, 0⟩ nS nS nS (.slice a1 (is).length b1) (.slice a5 (fs).length b5) nS nS nS nS) := Lib.hid (by rw [HS6.out]; exact F7.out.set _)
  go_wp2_with fail
  refine (hW _ F8.out.z.rd).mono ?_
  rintro e w9 ⟨v8, rfl, hs, hr, hq⟩
  obtain ⟨a8, n8, b8, hu⟩ := hs.slice
  subst hu
  have F9 : Hid (Fs N B w.heap.size (w.heap.size + 1) (s00 7 z0 z0 nS nS nS (.slice a1 (is).length b1) (.slice a5 (fs).length b5) nS nS ((-1)) 0) w w9 (t3) ⟨7, [], [], [], [], [], is, fs, x1, [], noE, [], -1, 0⟩ nS nS nS (.slice a1 (is).length b1) (.slice a5 (fs).length b5) (.slice a8 n8 b8) nS nS nS) := Lib.hid ((F8.out.call hr hq).cond (e := x1) (F8.out.gotX hs))
  obtain ⟨w10, hw10⟩ : ∃ w10, w10 = w9.setRow (w.heap.size + 1) (s10 7 z0 z0 nS nS nS (.slice a1 (is).length b1) (.slice a5 (fs).length b5) x1.a (.slice a8 n8 b8) nS nS ((-1)) 0) := ⟨_, rfl⟩
  have F10 : Hid (Fs N B w.heap.size (w.heap.size + 1) (s10 7 z0 z0 nS nS nS (.slice a1 (is).length b1) (.slice a5 (fs).length b5) x1.a (.slice a8 n8 b8) nS nS ((-1)) 0) w w10 (t3) ⟨7, [], [], [], [], [], is, fs, x1, [], noE, [], -1, 0⟩ nS nS nS (.slice a1 (is).length b1) (.slice a5 (fs).length b5) (.slice a8 n8 b8) nS nS nS) := Lib.hid (by rw [hw10]; exact F9.out.set _)
  clear hs hr hq
  unfold exVal
  go_wp2_with (first
    | (refine wpList_store_field rfl 36 _ _ rfl (w.heap.size + 1) 8 (eA x1.a (.slice a8 n8 b8)) rfl rfl _ _ F9.out.blk (by kernel_rfl) (by simp [Value.oneCell']) (by simp) (s10 7 z0 z0 nS nS nS (.slice a1 (is).length b1) (.slice a5 (fs).length b5) x1.a (.slice a8 n8 b8) nS nS ((-1)) 0) rfl ?_; rw [← hw10]; clear hw10))
  refine (hG _ F10.out.z.rd).mono ?_
  rintro e w11 ⟨rfl, hr, hq⟩
  have F11 := Lib.hid (F10.out.call hr hq)
  clear hr hq
  go_wp2_with fail
  refine (hO _ F11.out.z.rd).mono ?_
  rintro e w12 ⟨rfl, hr, hq⟩
  have F12 := Lib.hid (F11.out.call hr hq)
  clear hr hq
  go_wp2_with fail
  refine (hD _ F12.out.z.rd).mono ?_
  rintro e w13 ⟨v12, rfl, hrow, hr, hq⟩
  obtain ⟨a12, b12, hv, _⟩ := hrow.slice
  subst hv
  have F13 := Lib.hid (F12.out.call hr hq)
  have Q13 := Lib.hid (F12.out.gotL hrow)
  clear hrow hr hq
  have F14 : Hid (Fs N B w.heap.size (w.heap.size + 1) (s10 7 z0 z0 nS nS nS (.slice a1 (is).length b1) (.slice a5 (fs).length b5) x1.a (.slice a8 n8 b8) nS nS ((-1)) 0) w w13 (t8) ⟨7, [], [], [], [], [], is, fs, x1, [], noE, os, -1, 0⟩ nS nS nS (.slice a1 (is).length b1) (.slice a5 (fs).length b5) (.slice a8 n8 b8) nS nS (.slice a12 (os).length b12)) := Lib.hid (F13.out.order Q13.out)
  have c13 : w13.cell? ⟨(w.heap.size + 1), 27, none⟩ = some nS := bk_cell F14.out.blk 27
  have z13 : w13.frozen? ⟨(w.heap.size + 1), 27, none⟩ = false := bk_free F14.out.blk 27
  have HS13 : Hid ((w13.setCell ⟨(w.heap.size + 1), 27, none⟩ (.slice a12 (os).length b12)) = w13.setRow (w.heap.size + 1) (s10 7 z0 z0 nS nS nS (.slice a1 (is).length b1) (.slice a5 (fs).length b5) x1.a (.slice a8 n8 b8) nS (.slice a12 (os).length b12) ((-1)) 0)) := Lib.hid ((setCell_eq_setRow w13 (w.heap.size + 1) 27 _ _ _ (.slice a12 (os).length b12) F14.out.blk).trans (congrArg (w13.setRow (w.heap.size + 1)) rfl))
  have F15 : Hid (Fs N B w.heap.size (w.heap.size + 1) (s10 7 z0 z0 nS nS nS (.slice a1 (is).length b1) (.slice a5 (fs).length b5) x1.a (.slice a8 n8 b8) nS (.slice a12 (os).length b12) ((-1)) 0) w (w13.setCell ⟨(w.heap.size + 1), 27, none⟩ (.slice a12 (os).length b12)) (t8) ⟨7, [], [], [], [], [], is, fs, x1, [], noE, os, -1, 0⟩ nS nS nS (.slice a1 (is).length b1) (.slice a5 (fs).length b5) (.slice a8 n8 b8) nS nS (.slice a12 (os).length b12)) := Lib.hid (by rw [HS13.out]; exact F14.out.set _)
  go_wp2_with fail
  refine (take_yes N B t8 ⟨#[108, 105, 109, 105, 116]⟩ _ F15.out.z.rd hb (by decide)).mono ?_
  rintro e w16 ⟨rfl, hr, hq⟩
  have F16 := Lib.hid (F15.out.call hr hq)
  clear hr hq
  go_wp2_with fail
  refine (hK _ F16.out.z.rd).mono ?_
  rintro e w17 ⟨rfl, hr, hq⟩
  have F17 := Lib.hid (F16.out.call hr hq)
  clear hr hq
  have F18 : Hid (Fs N B w.heap.size (w.heap.size + 1) (s10 7 z0 z0 nS nS nS (.slice a1 (is).length b1) (.slice a5 (fs).length b5) x1.a (.slice a8 n8 b8) nS (.slice a12 (os).length b12) ((-1)) 0) w w17 (t9) ⟨7, [], [], [], [], [], is, fs, x1, [], noE, os, (k : Int), 0⟩ nS nS nS (.slice a1 (is).length b1) (.slice a5 (fs).length b5) (.slice a8 n8 b8) nS nS (.slice a12 (os).length b12)) := Lib.hid (F17.out.limit (k : Int))
  have c17 : w17.cell? ⟨(w.heap.size + 1), 28, none⟩ = some (.int .i64 (-1)) := bk_cell F18.out.blk 28
  have z17 : w17.frozen? ⟨(w.heap.size + 1), 28, none⟩ = false := bk_free F18.out.blk 28
  have HS17 : Hid ((w17.setCell ⟨(w.heap.size + 1), 28, none⟩ (.int .i64 (k : Int))) = w17.setRow (w.heap.size + 1) (s10 7 z0 z0 nS nS nS (.slice a1 (is).length b1) (.slice a5 (fs).length b5) x1.a (.slice a8 n8 b8) nS (.slice a12 (os).length b12) ((k : Int)) 0)) := Lib.hid ((setCell_eq_setRow w17 (w.heap.size + 1) 28 _ _ _ (.int .i64 (k : Int)) F18.out.blk).trans (congrArg (w17.setRow (w.heap.size + 1)) rfl))
  have F19 : Hid (Fs N B w.heap.size (w.heap.size + 1) (s10 7 z0 z0 nS nS nS (.slice a1 (is).length b1) (.slice a5 (fs).length b5) x1.a (.slice a8 n8 b8) nS (.slice a12 (os).length b12) ((k : Int)) 0) w (w17.setCell ⟨(w.heap.size + 1), 28, none⟩ (.int .i64 (k : Int))) (t9) ⟨7, [], [], [], [], [], is, fs, x1, [], noE, os, (k : Int), 0⟩ nS nS nS (.slice a1 (is).length b1) (.slice a5 (fs).length b5) (.slice a8 n8 b8) nS nS (.slice a12 (os).length b12)) := Lib.hid (by rw [HS17.out]; exact F18.out.set _)
  go_wp2_with fail
  refine (take_no N B t9 ⟨#[111, 102, 102, 115, 101, 116]⟩ _ F19.out.z.rd hc).mono ?_
  rintro e w20 ⟨rfl, hr, hb19⟩
  have F20 := Lib.hid (F19.out.new hb19)
  clear hr hb19
  go_wp2_with (first
    | (refine wpList_load_row rfl 39 _ rfl (w.heap.size + 1) rfl _ (s10 7 z0 z0 nS nS nS (.slice a1 (is).length b1) (.slice a5 (fs).length b5) x1.a (.slice a8 n8 b8) nS (.slice a12 (os).length b12) ((k : Int)) 0) (0, 0) _ F20.out.blk Tryz.underlying39 rfl (by kernel_rfl) ?_)
    | (refine wpList_store_row rfl 39 _ _ rfl w.heap.size (s10 7 z0 z0 nS nS nS (.slice a1 (is).length b1) (.slice a5 (fs).length b5) x1.a (.slice a8 n8 b8) nS (.slice a12 (os).length b12) ((k : Int)) 0) rfl rfl _ _ F20.out.z.res (by kernel_rfl) rfl (by simp [Value.oneCell']) ?_))
  refine bodyPost_ret (results_cell_row Tryz.results55 _ _ w.heap.size 39 (s10 7 z0 z0 nS nS nS (.slice a1 (is).length b1) (.slice a5 (fs).length b5) x1.a (.slice a8 n8 b8) nS (.slice a12 (os).length b12) ((k : Int)) 0) (0, 0) _ rfl (setRow_heap _ _ _ _ _ _ F20.out.z.res) Tryz.underlying39 rfl (by kernel_rfl)) rfl ?_
  exact F20.out.done rfl
set_option maxRecDepth 100000 in
set_option maxHeartbeats 8000000 in
theorem select_012 (N B n : Nat) (hn : n ≤ 900000) (self : St → Ex × St) (hself : ReadsX N B n 35 self) (hle : Le self) (t : St) (w : World) (h : RdAt N w B t) (ht : t.rest.length ≤ n) (is : List ItemM) (fs : List FromM) (x1 : Ex) (t1 t2 t3 t4 t5 t6 t7 t8 t9 t10 : St) (gs : List Ex) (x2 : Ex) (os : List OrderM) (k k2 : Nat) (e1 : itemsP self t = (is, t1)) (e2 : tablesP self (t1.need wFrom) = (fs, t2)) (e3 : condP self wWhere t2 = (x1, t3)) (e4 : phraseP wGroup wBy t3 = (false, t6)) (e7 : phraseP wOrder wBy t6 = (true, t7)) (e8 : listP (orderP self) t7 = (os, t8)) (hb : t8.has wLimit = true) (e9 : numberP t8.step = (k, t9)) (hc : t9.has wOffset = true) (e10 : numberP t9.step = (k2, t10)) :
    Calls Tryz.prog 55 #[.pointer (some ⟨B, 0, none⟩)] w (GivesS N B (⟨7, [], [], [], [], [], is, fs, x1, [], noE, os, (k : Int), (k2 : Int)⟩, t10) w) := by
  have hmf : ∀ (fn : Fn) (first cap : Array Value) (w : World), (Instr.makeFunc fn first cap).run Tryz.prog w = .ok (.func fn first cap) w := fun _ _ _ _ => rfl
  have F0 : Hid (Fz N B w.heap.size 39 (s00 0 z0 z0 nS nS nS nS nS nS nS 0 0) w (w.alloc (.cells (s00 0 z0 z0 nS nS nS nS nS nS nS 0 0) 39)) t) := Lib.hid (Fz.start 39 (s00 0 z0 z0 nS nS nS nS nS nS nS 0 0) h)
  have hI := fun w h => items_tr N B n hn self hself hle t w h ht
  unfold GivesL at hI; rw [e1] at hI; dsimp only at hI
  have HL1 : Hid (t1.rest.length ≤ n) := Lib.hid (by have a := itemsP_le hle t; rw [e1] at a; dsimp only at a; skip; omega)
  have hT := fun w h => tables_tr N B n hn self hself hle (t1.need wFrom) w h (by have b := St.need_le t1 wFrom; have c := HL1.out; omega)
  unfold GivesL at hT; rw [e2] at hT; dsimp only at hT
  have HL2 : Hid (t2.rest.length ≤ n) := Lib.hid (by have a := tablesP_le hle (t1.need wFrom); rw [e2] at a; dsimp only at a; have b := St.need_le t1 wFrom; have c := HL1.out; omega)
  have hW := fun w h => condition_tr N B n self hself ⟨#[119, 104, 101, 114, 101]⟩ (by decide) t2 w h HL2.out
  rw [show condP self (⟨#[119, 104, 101, 114, 101]⟩ : ByteArray).data.toList t2 = condP self wWhere t2 from rfl] at hW
  unfold GivesX at hW; rw [e3] at hW; dsimp only at hW
  have HL3 : Hid (t3.rest.length ≤ n) := Lib.hid (by have a := condP_le hle wWhere t2; rw [e3] at a; dsimp only at a; have c := HL2.out; omega)
  have hG := fun w h => phrase_tr N B ⟨#[103, 114, 111, 117, 112]⟩ ⟨#[98, 121]⟩ (by decide) (by decide) t3 w h
  rw [show phraseP (⟨#[103, 114, 111, 117, 112]⟩ : ByteArray).data.toList (⟨#[98, 121]⟩ : ByteArray).data.toList t3 = phraseP wGroup wBy t3 from rfl, e4] at hG; dsimp only at hG
  have HL6 : Hid (t6.rest.length ≤ n) := Lib.hid (by have a := phraseP_le wGroup wBy t3; rw [e4] at a; dsimp only at a; have c := HL3.out; omega)
  have hO := fun w h => phrase_tr N B ⟨#[111, 114, 100, 101, 114]⟩ ⟨#[98, 121]⟩ (by decide) (by decide) t6 w h
  rw [show phraseP (⟨#[111, 114, 100, 101, 114]⟩ : ByteArray).data.toList (⟨#[98, 121]⟩ : ByteArray).data.toList t6 = phraseP wOrder wBy t6 from rfl, e7] at hO; dsimp only at hO
  have HL7 : Hid (t7.rest.length ≤ n) := Lib.hid (by have a := phraseP_le wOrder wBy t6; rw [e7] at a; dsimp only at a; have c := HL6.out; omega)
  have hD := fun w h => listOrder_tr N B n 101 hn (fun _ _ => by kernel_rfl) (orderP self) (order_tr N B n self hself hle) (orderP_le hle) t7 w h HL7.out
  unfold GivesL at hD; rw [e8] at hD; dsimp only at hD
  have hK := fun w h => number_tr N B t8.step w h
  rw [e9] at hK; dsimp only at hK
  have hM := fun w h => number_tr N B t9.step w h
  rw [e10] at hM; dsimp only at hM
  clear h e1 e2 e3 e4 e7 e8 e9 e10
  go_enter Tryz.func55, Tryz.ntmps55
  obtain ⟨w1, hw1⟩ : ∃ w1, w1 = ((w.alloc (.cells (s00 0 z0 z0 nS nS nS nS nS nS nS 0 0) 39)).alloc (.cells (s00 0 z0 z0 nS nS nS nS nS nS nS 0 0) 39)).setRow (w.heap.size + 1) (s00 7 z0 z0 nS nS nS nS nS nS nS ((-1)) 0) := ⟨_, rfl⟩
  have F1 : Hid (Fs N B w.heap.size (w.heap.size + 1) (s00 7 z0 z0 nS nS nS nS nS nS nS ((-1)) 0) w w1 (t) ⟨7, [], [], [], [], [], [], [], noE, [], noE, [], -1, 0⟩ nS nS nS nS nS nS nS nS nS) := Lib.hid (by rw [hw1]; exact Fs.begin F0.out (s00 7 z0 z0 nS nS nS nS nS nS nS ((-1)) 0) _ rfl)
  have ZX : Hid (((w.alloc (.cells (s00 0 z0 z0 nS nS nS nS nS nS nS 0 0) 39)).alloc (.cells (s00 0 z0 z0 nS nS nS nS nS nS nS 0 0) 39)).heap[w.heap.size + 1]? = some (.cells (s00 0 z0 z0 nS nS nS nS nS nS nS 0 0) 39 (0, 0))) := Lib.hid Fs.begin0
  go_wp2_with (first
    | (refine wpList_store_row rfl 39 _ _ rfl (w.heap.size + 1) (s00 7 z0 z0 nS nS nS nS nS nS nS ((-1)) 0) rfl rfl _ _ ZX.out (by kernel_rfl) rfl (by simp [Value.oneCell']) ?_; rw [← hw1]; clear hw1))
  refine (hI _ F1.out.z.rd).mono ?_
  rintro e w2 ⟨v1, rfl, hrow, hr, hq⟩
  obtain ⟨a1, b1, hv, _⟩ := hrow.slice
  subst hv
  have F2 := Lib.hid (F1.out.call hr hq)
  have Q2 := Lib.hid (F1.out.gotL hrow)
  clear hrow hr hq
  have F3 : Hid (Fs N B w.heap.size (w.heap.size + 1) (s00 7 z0 z0 nS nS nS nS nS nS nS ((-1)) 0) w w2 (t1) ⟨7, [], [], [], [], [], is, [], noE, [], noE, [], -1, 0⟩ nS nS nS (.slice a1 (is).length b1) nS nS nS nS nS) := Lib.hid (F2.out.items Q2.out)
  have c2 : w2.cell? ⟨(w.heap.size + 1), 6, none⟩ = some nS := bk_cell F3.out.blk 6
  have z2 : w2.frozen? ⟨(w.heap.size + 1), 6, none⟩ = false := bk_free F3.out.blk 6
  have HS2 : Hid ((w2.setCell ⟨(w.heap.size + 1), 6, none⟩ (.slice a1 (is).length b1)) = w2.setRow (w.heap.size + 1) (s00 7 z0 z0 nS nS nS (.slice a1 (is).length b1) nS nS nS ((-1)) 0)) := Lib.hid ((setCell_eq_setRow w2 (w.heap.size + 1) 6 _ _ _ (.slice a1 (is).length b1) F3.out.blk).trans (congrArg (w2.setRow (w.heap.size + 1)) rfl))
  have F4 : Hid (Fs N B w.heap.size (w.heap.size + 1) (s00 7 z0 z0 nS nS nS (.slice a1 (is).length b1) nS nS nS ((-1)) 0) w (w2.setCell ⟨(w.heap.size + 1), 6, none⟩ (.slice a1 (is).length b1)) (t1) ⟨7, [], [], [], [], [], is, [], noE, [], noE, [], -1, 0⟩ nS nS nS (.slice a1 (is).length b1) nS nS nS nS nS) := Lib.hid (by rw [HS2.out]; exact F3.out.set _)
  go_wp2_with fail
  refine (need_any N B t1 ⟨#[102, 114, 111, 109]⟩ _ F4.out.z.rd (by decide)).mono ?_
  rintro e w5 ⟨rfl, hr, hq⟩
  have F5 := Lib.hid (F4.out.call hr hq)
  clear hr hq
  go_wp2_with fail
  refine (hT _ F5.out.z.rd).mono ?_
  rintro e w6 ⟨v5, rfl, hrow, hr, hq⟩
  obtain ⟨a5, b5, hv, _⟩ := hrow.slice
  subst hv
  have F6 := Lib.hid (F5.out.call hr hq)
  have Q6 := Lib.hid (F5.out.gotL hrow)
  clear hrow hr hq
  have F7 : Hid (Fs N B w.heap.size (w.heap.size + 1) (s00 7 z0 z0 nS nS nS (.slice a1 (is).length b1) nS nS nS ((-1)) 0) w w6 (t2) ⟨7, [], [], [], [], [], is, fs, noE, [], noE, [], -1, 0⟩ nS nS nS (.slice a1 (is).length b1) (.slice a5 (fs).length b5) nS nS nS nS) := Lib.hid (F6.out.tables Q6.out)
  have c6 : w6.cell? ⟨(w.heap.size + 1), 7, none⟩ = some nS := bk_cell F7.out.blk 7
  have z6 : w6.frozen? ⟨(w.heap.size + 1), 7, none⟩ = false := bk_free F7.out.blk 7
  have HS6 : Hid ((w6.setCell ⟨(w.heap.size + 1), 7, none⟩ (.slice a5 (fs).length b5)) = w6.setRow (w.heap.size + 1) (s00 7 z0 z0 nS nS nS (.slice a1 (is).length b1) (.slice a5 (fs).length b5) nS nS ((-1)) 0)) := Lib.hid ((setCell_eq_setRow w6 (w.heap.size + 1) 7 _ _ _ (.slice a5 (fs).length b5) F7.out.blk).trans (congrArg (w6.setRow (w.heap.size + 1)) rfl))
  have F8 : Hid (Fs N B w.heap.size (w.heap.size + 1) (s00 7 z0 z0 nS nS nS (.slice a1 (is).length b1) (.slice a5 (fs).length b5) nS nS ((-1)) 0) w (w6.setCell ⟨(w.heap.size + 1), 7, none⟩ (.slice a5 (fs).length b5)) (t2) ⟨7, [], [], [], [], [], is, fs, noE, [], noE, [], -1, 0⟩ nS nS nS (.slice a1 (is).length b1) (.slice a5 (fs).length b5) nS nS nS nS) := Lib.hid (by rw [HS6.out]; exact F7.out.set _)
  go_wp2_with fail
  refine (hW _ F8.out.z.rd).mono ?_
  rintro e w9 ⟨v8, rfl, hs, hr, hq⟩
  obtain ⟨a8, n8, b8, hu⟩ := hs.slice
  subst hu
  have F9 : Hid (Fs N B w.heap.size (w.heap.size + 1) (s00 7 z0 z0 nS nS nS (.slice a1 (is).length b1) (.slice a5 (fs).length b5) nS nS ((-1)) 0) w w9 (t3) ⟨7, [], [], [], [], [], is, fs, x1, [], noE, [], -1, 0⟩ nS nS nS (.slice a1 (is).length b1) (.slice a5 (fs).length b5) (.slice a8 n8 b8) nS nS nS) := Lib.hid ((F8.out.call hr hq).cond (e := x1) (F8.out.gotX hs))
  obtain ⟨w10, hw10⟩ : ∃ w10, w10 = w9.setRow (w.heap.size + 1) (s10 7 z0 z0 nS nS nS (.slice a1 (is).length b1) (.slice a5 (fs).length b5) x1.a (.slice a8 n8 b8) nS nS ((-1)) 0) := ⟨_, rfl⟩
  have F10 : Hid (Fs N B w.heap.size (w.heap.size + 1) (s10 7 z0 z0 nS nS nS (.slice a1 (is).length b1) (.slice a5 (fs).length b5) x1.a (.slice a8 n8 b8) nS nS ((-1)) 0) w w10 (t3) ⟨7, [], [], [], [], [], is, fs, x1, [], noE, [], -1, 0⟩ nS nS nS (.slice a1 (is).length b1) (.slice a5 (fs).length b5) (.slice a8 n8 b8) nS nS nS) := Lib.hid (by rw [hw10]; exact F9.out.set _)
  clear hs hr hq
  unfold exVal
  go_wp2_with (first
    | (refine wpList_store_field rfl 36 _ _ rfl (w.heap.size + 1) 8 (eA x1.a (.slice a8 n8 b8)) rfl rfl _ _ F9.out.blk (by kernel_rfl) (by simp [Value.oneCell']) (by simp) (s10 7 z0 z0 nS nS nS (.slice a1 (is).length b1) (.slice a5 (fs).length b5) x1.a (.slice a8 n8 b8) nS nS ((-1)) 0) rfl ?_; rw [← hw10]; clear hw10))
  refine (hG _ F10.out.z.rd).mono ?_
  rintro e w11 ⟨rfl, hr, hq⟩
  have F11 := Lib.hid (F10.out.call hr hq)
  clear hr hq
  go_wp2_with fail
  refine (hO _ F11.out.z.rd).mono ?_
  rintro e w12 ⟨rfl, hr, hq⟩
  have F12 := Lib.hid (F11.out.call hr hq)
  clear hr hq
  go_wp2_with fail
  refine (hD _ F12.out.z.rd).mono ?_
  rintro e w13 ⟨v12, rfl, hrow, hr, hq⟩
  obtain ⟨a12, b12, hv, _⟩ := hrow.slice
  subst hv
  have F13 := Lib.hid (F12.out.call hr hq)
  have Q13 := Lib.hid (F12.out.gotL hrow)
  clear hrow hr hq
  have F14 : Hid (Fs N B w.heap.size (w.heap.size + 1) (s10 7 z0 z0 nS nS nS (.slice a1 (is).length b1) (.slice a5 (fs).length b5) x1.a (.slice a8 n8 b8) nS nS ((-1)) 0) w w13 (t8) ⟨7, [], [], [], [], [], is, fs, x1, [], noE, os, -1, 0⟩ nS nS nS (.slice a1 (is).length b1) (.slice a5 (fs).length b5) (.slice a8 n8 b8) nS nS (.slice a12 (os).length b12)) := Lib.hid (F13.out.order Q13.out)
  have c13 : w13.cell? ⟨(w.heap.size + 1), 27, none⟩ = some nS := bk_cell F14.out.blk 27
  have z13 : w13.frozen? ⟨(w.heap.size + 1), 27, none⟩ = false := bk_free F14.out.blk 27
  have HS13 : Hid ((w13.setCell ⟨(w.heap.size + 1), 27, none⟩ (.slice a12 (os).length b12)) = w13.setRow (w.heap.size + 1) (s10 7 z0 z0 nS nS nS (.slice a1 (is).length b1) (.slice a5 (fs).length b5) x1.a (.slice a8 n8 b8) nS (.slice a12 (os).length b12) ((-1)) 0)) := Lib.hid ((setCell_eq_setRow w13 (w.heap.size + 1) 27 _ _ _ (.slice a12 (os).length b12) F14.out.blk).trans (congrArg (w13.setRow (w.heap.size + 1)) rfl))
  have F15 : Hid (Fs N B w.heap.size (w.heap.size + 1) (s10 7 z0 z0 nS nS nS (.slice a1 (is).length b1) (.slice a5 (fs).length b5) x1.a (.slice a8 n8 b8) nS (.slice a12 (os).length b12) ((-1)) 0) w (w13.setCell ⟨(w.heap.size + 1), 27, none⟩ (.slice a12 (os).length b12)) (t8) ⟨7, [], [], [], [], [], is, fs, x1, [], noE, os, -1, 0⟩ nS nS nS (.slice a1 (is).length b1) (.slice a5 (fs).length b5) (.slice a8 n8 b8) nS nS (.slice a12 (os).length b12)) := Lib.hid (by rw [HS13.out]; exact F14.out.set _)
  go_wp2_with fail
  refine (take_yes N B t8 ⟨#[108, 105, 109, 105, 116]⟩ _ F15.out.z.rd hb (by decide)).mono ?_
  rintro e w16 ⟨rfl, hr, hq⟩
  have F16 := Lib.hid (F15.out.call hr hq)
  clear hr hq
  go_wp2_with fail
  refine (hK _ F16.out.z.rd).mono ?_
  rintro e w17 ⟨rfl, hr, hq⟩
  have F17 := Lib.hid (F16.out.call hr hq)
  clear hr hq
  have F18 : Hid (Fs N B w.heap.size (w.heap.size + 1) (s10 7 z0 z0 nS nS nS (.slice a1 (is).length b1) (.slice a5 (fs).length b5) x1.a (.slice a8 n8 b8) nS (.slice a12 (os).length b12) ((-1)) 0) w w17 (t9) ⟨7, [], [], [], [], [], is, fs, x1, [], noE, os, (k : Int), 0⟩ nS nS nS (.slice a1 (is).length b1) (.slice a5 (fs).length b5) (.slice a8 n8 b8) nS nS (.slice a12 (os).length b12)) := Lib.hid (F17.out.limit (k : Int))
  have c17 : w17.cell? ⟨(w.heap.size + 1), 28, none⟩ = some (.int .i64 (-1)) := bk_cell F18.out.blk 28
  have z17 : w17.frozen? ⟨(w.heap.size + 1), 28, none⟩ = false := bk_free F18.out.blk 28
  have HS17 : Hid ((w17.setCell ⟨(w.heap.size + 1), 28, none⟩ (.int .i64 (k : Int))) = w17.setRow (w.heap.size + 1) (s10 7 z0 z0 nS nS nS (.slice a1 (is).length b1) (.slice a5 (fs).length b5) x1.a (.slice a8 n8 b8) nS (.slice a12 (os).length b12) ((k : Int)) 0)) := Lib.hid ((setCell_eq_setRow w17 (w.heap.size + 1) 28 _ _ _ (.int .i64 (k : Int)) F18.out.blk).trans (congrArg (w17.setRow (w.heap.size + 1)) rfl))
  have F19 : Hid (Fs N B w.heap.size (w.heap.size + 1) (s10 7 z0 z0 nS nS nS (.slice a1 (is).length b1) (.slice a5 (fs).length b5) x1.a (.slice a8 n8 b8) nS (.slice a12 (os).length b12) ((k : Int)) 0) w (w17.setCell ⟨(w.heap.size + 1), 28, none⟩ (.int .i64 (k : Int))) (t9) ⟨7, [], [], [], [], [], is, fs, x1, [], noE, os, (k : Int), 0⟩ nS nS nS (.slice a1 (is).length b1) (.slice a5 (fs).length b5) (.slice a8 n8 b8) nS nS (.slice a12 (os).length b12)) := Lib.hid (by rw [HS17.out]; exact F18.out.set _)
  go_wp2_with fail
  refine (take_yes N B t9 ⟨#[111, 102, 102, 115, 101, 116]⟩ _ F19.out.z.rd hc (by decide)).mono ?_
  rintro e w20 ⟨rfl, hr, hq⟩
  have F20 := Lib.hid (F19.out.call hr hq)
  clear hr hq
  go_wp2_with fail
  refine (hM _ F20.out.z.rd).mono ?_
  rintro e w21 ⟨rfl, hr, hq⟩
  have F21 := Lib.hid (F20.out.call hr hq)
  clear hr hq
  have F22 : Hid (Fs N B w.heap.size (w.heap.size + 1) (s10 7 z0 z0 nS nS nS (.slice a1 (is).length b1) (.slice a5 (fs).length b5) x1.a (.slice a8 n8 b8) nS (.slice a12 (os).length b12) ((k : Int)) 0) w w21 (t10) ⟨7, [], [], [], [], [], is, fs, x1, [], noE, os, (k : Int), (k2 : Int)⟩ nS nS nS (.slice a1 (is).length b1) (.slice a5 (fs).length b5) (.slice a8 n8 b8) nS nS (.slice a12 (os).length b12)) := Lib.hid (F21.out.skip (k2 : Int))
  have c21 : w21.cell? ⟨(w.heap.size + 1), 29, none⟩ = some (.int .i64 0) := bk_cell F22.out.blk 29
  have z21 : w21.frozen? ⟨(w.heap.size + 1), 29, none⟩ = false := bk_free F22.out.blk 29
  have HS21 : Hid ((w21.setCell ⟨(w.heap.size + 1), 29, none⟩ (.int .i64 (k2 : Int))) = w21.setRow (w.heap.size + 1) (s10 7 z0 z0 nS nS nS (.slice a1 (is).length b1) (.slice a5 (fs).length b5) x1.a (.slice a8 n8 b8) nS (.slice a12 (os).length b12) ((k : Int)) ((k2 : Int)))) := Lib.hid ((setCell_eq_setRow w21 (w.heap.size + 1) 29 _ _ _ (.int .i64 (k2 : Int)) F22.out.blk).trans (congrArg (w21.setRow (w.heap.size + 1)) rfl))
  have F23 : Hid (Fs N B w.heap.size (w.heap.size + 1) (s10 7 z0 z0 nS nS nS (.slice a1 (is).length b1) (.slice a5 (fs).length b5) x1.a (.slice a8 n8 b8) nS (.slice a12 (os).length b12) ((k : Int)) ((k2 : Int))) w (w21.setCell ⟨(w.heap.size + 1), 29, none⟩ (.int .i64 (k2 : Int))) (t10) ⟨7, [], [], [], [], [], is, fs, x1, [], noE, os, (k : Int), (k2 : Int)⟩ nS nS nS (.slice a1 (is).length b1) (.slice a5 (fs).length b5) (.slice a8 n8 b8) nS nS (.slice a12 (os).length b12)) := Lib.hid (by rw [HS21.out]; exact F22.out.set _)
  go_wp2_with (first
    | (refine wpList_load_row rfl 39 _ rfl (w.heap.size + 1) rfl _ (s10 7 z0 z0 nS nS nS (.slice a1 (is).length b1) (.slice a5 (fs).length b5) x1.a (.slice a8 n8 b8) nS (.slice a12 (os).length b12) ((k : Int)) ((k2 : Int))) (0, 0) _ F23.out.blk Tryz.underlying39 rfl (by kernel_rfl) ?_)
    | (refine wpList_store_row rfl 39 _ _ rfl w.heap.size (s10 7 z0 z0 nS nS nS (.slice a1 (is).length b1) (.slice a5 (fs).length b5) x1.a (.slice a8 n8 b8) nS (.slice a12 (os).length b12) ((k : Int)) ((k2 : Int))) rfl rfl _ _ F23.out.z.res (by kernel_rfl) rfl (by simp [Value.oneCell']) ?_))
  refine bodyPost_ret (results_cell_row Tryz.results55 _ _ w.heap.size 39 (s10 7 z0 z0 nS nS nS (.slice a1 (is).length b1) (.slice a5 (fs).length b5) x1.a (.slice a8 n8 b8) nS (.slice a12 (os).length b12) ((k : Int)) ((k2 : Int))) (0, 0) _ rfl (setRow_heap _ _ _ _ _ _ F23.out.z.res) Tryz.underlying39 rfl (by kernel_rfl)) rfl ?_
  exact F23.out.done rfl
set_option maxRecDepth 100000 in
set_option maxHeartbeats 8000000 in
theorem select_100 (N B n : Nat) (hn : n ≤ 900000) (self : St → Ex × St) (hself : ReadsX N B n 35 self) (hle : Le self) (t : St) (w : World) (h : RdAt N w B t) (ht : t.rest.length ≤ n) (is : List ItemM) (fs : List FromM) (x1 : Ex) (t1 t2 t3 t4 t5 t6 t7 t8 t9 t10 : St) (gs : List Ex) (x2 : Ex) (os : List OrderM) (k k2 : Nat) (e1 : itemsP self t = (is, t1)) (e2 : tablesP self (t1.need wFrom) = (fs, t2)) (e3 : condP self wWhere t2 = (x1, t3)) (e4 : phraseP wGroup wBy t3 = (true, t4)) (e5 : listP self t4 = (gs, t5)) (e6 : condP self wHaving t5 = (x2, t6)) (e7 : phraseP wOrder wBy t6 = (false, t8)) (hb : t8.has wLimit = false) :
    Calls Tryz.prog 55 #[.pointer (some ⟨B, 0, none⟩)] w (GivesS N B (⟨7, [], [], [], [], [], is, fs, x1, gs, x2, [], -1, 0⟩, t8) w) := by
  have hmf : ∀ (fn : Fn) (first cap : Array Value) (w : World), (Instr.makeFunc fn first cap).run Tryz.prog w = .ok (.func fn first cap) w := fun _ _ _ _ => rfl
  have F0 : Hid (Fz N B w.heap.size 39 (s00 0 z0 z0 nS nS nS nS nS nS nS 0 0) w (w.alloc (.cells (s00 0 z0 z0 nS nS nS nS nS nS nS 0 0) 39)) t) := Lib.hid (Fz.start 39 (s00 0 z0 z0 nS nS nS nS nS nS nS 0 0) h)
  have hI := fun w h => items_tr N B n hn self hself hle t w h ht
  unfold GivesL at hI; rw [e1] at hI; dsimp only at hI
  have HL1 : Hid (t1.rest.length ≤ n) := Lib.hid (by have a := itemsP_le hle t; rw [e1] at a; dsimp only at a; skip; omega)
  have hT := fun w h => tables_tr N B n hn self hself hle (t1.need wFrom) w h (by have b := St.need_le t1 wFrom; have c := HL1.out; omega)
  unfold GivesL at hT; rw [e2] at hT; dsimp only at hT
  have HL2 : Hid (t2.rest.length ≤ n) := Lib.hid (by have a := tablesP_le hle (t1.need wFrom); rw [e2] at a; dsimp only at a; have b := St.need_le t1 wFrom; have c := HL1.out; omega)
  have hW := fun w h => condition_tr N B n self hself ⟨#[119, 104, 101, 114, 101]⟩ (by decide) t2 w h HL2.out
  rw [show condP self (⟨#[119, 104, 101, 114, 101]⟩ : ByteArray).data.toList t2 = condP self wWhere t2 from rfl] at hW
  unfold GivesX at hW; rw [e3] at hW; dsimp only at hW
  have HL3 : Hid (t3.rest.length ≤ n) := Lib.hid (by have a := condP_le hle wWhere t2; rw [e3] at a; dsimp only at a; have c := HL2.out; omega)
  have hG := fun w h => phrase_tr N B ⟨#[103, 114, 111, 117, 112]⟩ ⟨#[98, 121]⟩ (by decide) (by decide) t3 w h
  rw [show phraseP (⟨#[103, 114, 111, 117, 112]⟩ : ByteArray).data.toList (⟨#[98, 121]⟩ : ByteArray).data.toList t3 = phraseP wGroup wBy t3 from rfl, e4] at hG; dsimp only at hG
  have HL4 : Hid (t4.rest.length ≤ n) := Lib.hid (by have a := phraseP_le wGroup wBy t3; rw [e4] at a; dsimp only at a; have c := HL3.out; omega)
  have hL := fun w h => listEx_tr N B n 35 hn (fun _ _ => by kernel_rfl) self hself.row hle t4 w h HL4.out
  unfold GivesL at hL; rw [e5] at hL; dsimp only at hL
  have HL5 : Hid (t5.rest.length ≤ n) := Lib.hid (by have a := listP_le hle t4; rw [e5] at a; dsimp only at a; have c := HL4.out; omega)
  have hH := fun w h => condition_tr N B n self hself ⟨#[104, 97, 118, 105, 110, 103]⟩ (by decide) t5 w h HL5.out
  rw [show condP self (⟨#[104, 97, 118, 105, 110, 103]⟩ : ByteArray).data.toList t5 = condP self wHaving t5 from rfl] at hH
  unfold GivesX at hH; rw [e6] at hH; dsimp only at hH
  have HL6 : Hid (t6.rest.length ≤ n) := Lib.hid (by have a := condP_le hle wHaving t5; rw [e6] at a; dsimp only at a; have c := HL5.out; omega)
  have hO := fun w h => phrase_tr N B ⟨#[111, 114, 100, 101, 114]⟩ ⟨#[98, 121]⟩ (by decide) (by decide) t6 w h
  rw [show phraseP (⟨#[111, 114, 100, 101, 114]⟩ : ByteArray).data.toList (⟨#[98, 121]⟩ : ByteArray).data.toList t6 = phraseP wOrder wBy t6 from rfl, e7] at hO; dsimp only at hO
  clear h e1 e2 e3 e4 e7 e5 e6
  go_enter Tryz.func55, Tryz.ntmps55
  obtain ⟨w1, hw1⟩ : ∃ w1, w1 = ((w.alloc (.cells (s00 0 z0 z0 nS nS nS nS nS nS nS 0 0) 39)).alloc (.cells (s00 0 z0 z0 nS nS nS nS nS nS nS 0 0) 39)).setRow (w.heap.size + 1) (s00 7 z0 z0 nS nS nS nS nS nS nS ((-1)) 0) := ⟨_, rfl⟩
  have F1 : Hid (Fs N B w.heap.size (w.heap.size + 1) (s00 7 z0 z0 nS nS nS nS nS nS nS ((-1)) 0) w w1 (t) ⟨7, [], [], [], [], [], [], [], noE, [], noE, [], -1, 0⟩ nS nS nS nS nS nS nS nS nS) := Lib.hid (by rw [hw1]; exact Fs.begin F0.out (s00 7 z0 z0 nS nS nS nS nS nS nS ((-1)) 0) _ rfl)
  have ZX : Hid (((w.alloc (.cells (s00 0 z0 z0 nS nS nS nS nS nS nS 0 0) 39)).alloc (.cells (s00 0 z0 z0 nS nS nS nS nS nS nS 0 0) 39)).heap[w.heap.size + 1]? = some (.cells (s00 0 z0 z0 nS nS nS nS nS nS nS 0 0) 39 (0, 0))) := Lib.hid Fs.begin0
  go_wp2_with (first
    | (refine wpList_store_row rfl 39 _ _ rfl (w.heap.size + 1) (s00 7 z0 z0 nS nS nS nS nS nS nS ((-1)) 0) rfl rfl _ _ ZX.out (by kernel_rfl) rfl (by simp [Value.oneCell']) ?_; rw [← hw1]; clear hw1))
  refine (hI _ F1.out.z.rd).mono ?_
  rintro e w2 ⟨v1, rfl, hrow, hr, hq⟩
  obtain ⟨a1, b1, hv, _⟩ := hrow.slice
  subst hv
  have F2 := Lib.hid (F1.out.call hr hq)
  have Q2 := Lib.hid (F1.out.gotL hrow)
  clear hrow hr hq
  have F3 : Hid (Fs N B w.heap.size (w.heap.size + 1) (s00 7 z0 z0 nS nS nS nS nS nS nS ((-1)) 0) w w2 (t1) ⟨7, [], [], [], [], [], is, [], noE, [], noE, [], -1, 0⟩ nS nS nS (.slice a1 (is).length b1) nS nS nS nS nS) := Lib.hid (F2.out.items Q2.out)
  have c2 : w2.cell? ⟨(w.heap.size + 1), 6, none⟩ = some nS := bk_cell F3.out.blk 6
  have z2 : w2.frozen? ⟨(w.heap.size + 1), 6, none⟩ = false := bk_free F3.out.blk 6
  have HS2 : Hid ((w2.setCell ⟨(w.heap.size + 1), 6, none⟩ (.slice a1 (is).length b1)) = w2.setRow (w.heap.size + 1) (s00 7 z0 z0 nS nS nS (.slice a1 (is).length b1) nS nS nS ((-1)) 0)) := Lib.hid ((setCell_eq_setRow w2 (w.heap.size + 1) 6 _ _ _ (.slice a1 (is).length b1) F3.out.blk).trans (congrArg (w2.setRow (w.heap.size + 1)) rfl))
  have F4 : Hid (Fs N B w.heap.size (w.heap.size + 1) (s00 7 z0 z0 nS nS nS (.slice a1 (is).length b1) nS nS nS ((-1)) 0) w (w2.setCell ⟨(w.heap.size + 1), 6, none⟩ (.slice a1 (is).length b1)) (t1) ⟨7, [], [], [], [], [], is, [], noE, [], noE, [], -1, 0⟩ nS nS nS (.slice a1 (is).length b1) nS nS nS nS nS) := Lib.hid (by rw [HS2.out]; exact F3.out.set _)
  go_wp2_with fail
  refine (need_any N B t1 ⟨#[102, 114, 111, 109]⟩ _ F4.out.z.rd (by decide)).mono ?_
  rintro e w5 ⟨rfl, hr, hq⟩
  have F5 := Lib.hid (F4.out.call hr hq)
  clear hr hq
  go_wp2_with fail
  refine (hT _ F5.out.z.rd).mono ?_
  rintro e w6 ⟨v5, rfl, hrow, hr, hq⟩
  obtain ⟨a5, b5, hv, _⟩ := hrow.slice
  subst hv
  have F6 := Lib.hid (F5.out.call hr hq)
  have Q6 := Lib.hid (F5.out.gotL hrow)
  clear hrow hr hq
  have F7 : Hid (Fs N B w.heap.size (w.heap.size + 1) (s00 7 z0 z0 nS nS nS (.slice a1 (is).length b1) nS nS nS ((-1)) 0) w w6 (t2) ⟨7, [], [], [], [], [], is, fs, noE, [], noE, [], -1, 0⟩ nS nS nS (.slice a1 (is).length b1) (.slice a5 (fs).length b5) nS nS nS nS) := Lib.hid (F6.out.tables Q6.out)
  have c6 : w6.cell? ⟨(w.heap.size + 1), 7, none⟩ = some nS := bk_cell F7.out.blk 7
  have z6 : w6.frozen? ⟨(w.heap.size + 1), 7, none⟩ = false := bk_free F7.out.blk 7
  have HS6 : Hid ((w6.setCell ⟨(w.heap.size + 1), 7, none⟩ (.slice a5 (fs).length b5)) = w6.setRow (w.heap.size + 1) (s00 7 z0 z0 nS nS nS (.slice a1 (is).length b1) (.slice a5 (fs).length b5) nS nS ((-1)) 0)) := Lib.hid ((setCell_eq_setRow w6 (w.heap.size + 1) 7 _ _ _ (.slice a5 (fs).length b5) F7.out.blk).trans (congrArg (w6.setRow (w.heap.size + 1)) rfl))
  have F8 : Hid (Fs N B w.heap.size (w.heap.size + 1) (s00 7 z0 z0 nS nS nS (.slice a1 (is).length b1) (.slice a5 (fs).length b5) nS nS ((-1)) 0) w (w6.setCell ⟨(w.heap.size + 1), 7, none⟩ (.slice a5 (fs).length b5)) (t2) ⟨7, [], [], [], [], [], is, fs, noE, [], noE, [], -1, 0⟩ nS nS nS (.slice a1 (is).length b1) (.slice a5 (fs).length b5) nS nS nS nS) := Lib.hid (by rw [HS6.out]; exact F7.out.set _)
  go_wp2_with fail
  refine (hW _ F8.out.z.rd).mono ?_
  rintro e w9 ⟨v8, rfl, hs, hr, hq⟩
  obtain ⟨a8, n8, b8, hu⟩ := hs.slice
  subst hu
  have F9 : Hid (Fs N B w.heap.size (w.heap.size + 1) (s00 7 z0 z0 nS nS nS (.slice a1 (is).length b1) (.slice a5 (fs).length b5) nS nS ((-1)) 0) w w9 (t3) ⟨7, [], [], [], [], [], is, fs, x1, [], noE, [], -1, 0⟩ nS nS nS (.slice a1 (is).length b1) (.slice a5 (fs).length b5) (.slice a8 n8 b8) nS nS nS) := Lib.hid ((F8.out.call hr hq).cond (e := x1) (F8.out.gotX hs))
  obtain ⟨w10, hw10⟩ : ∃ w10, w10 = w9.setRow (w.heap.size + 1) (s10 7 z0 z0 nS nS nS (.slice a1 (is).length b1) (.slice a5 (fs).length b5) x1.a (.slice a8 n8 b8) nS nS ((-1)) 0) := ⟨_, rfl⟩
  have F10 : Hid (Fs N B w.heap.size (w.heap.size + 1) (s10 7 z0 z0 nS nS nS (.slice a1 (is).length b1) (.slice a5 (fs).length b5) x1.a (.slice a8 n8 b8) nS nS ((-1)) 0) w w10 (t3) ⟨7, [], [], [], [], [], is, fs, x1, [], noE, [], -1, 0⟩ nS nS nS (.slice a1 (is).length b1) (.slice a5 (fs).length b5) (.slice a8 n8 b8) nS nS nS) := Lib.hid (by rw [hw10]; exact F9.out.set _)
  clear hs hr hq
  unfold exVal
  go_wp2_with (first
    | (refine wpList_store_field rfl 36 _ _ rfl (w.heap.size + 1) 8 (eA x1.a (.slice a8 n8 b8)) rfl rfl _ _ F9.out.blk (by kernel_rfl) (by simp [Value.oneCell']) (by simp) (s10 7 z0 z0 nS nS nS (.slice a1 (is).length b1) (.slice a5 (fs).length b5) x1.a (.slice a8 n8 b8) nS nS ((-1)) 0) rfl ?_; rw [← hw10]; clear hw10))
  refine (hG _ F10.out.z.rd).mono ?_
  rintro e w11 ⟨rfl, hr, hq⟩
  have F11 := Lib.hid (F10.out.call hr hq)
  clear hr hq
  go_wp2_with fail
  refine (hL _ F11.out.z.rd).mono ?_
  rintro e w12 ⟨v11, rfl, hrow, hr, hq⟩
  obtain ⟨a11, b11, hv, _⟩ := hrow.slice
  subst hv
  have F12 := Lib.hid (F11.out.call hr hq)
  have Q12 := Lib.hid (F11.out.gotL hrow)
  clear hrow hr hq
  have F13 : Hid (Fs N B w.heap.size (w.heap.size + 1) (s10 7 z0 z0 nS nS nS (.slice a1 (is).length b1) (.slice a5 (fs).length b5) x1.a (.slice a8 n8 b8) nS nS ((-1)) 0) w w12 (t5) ⟨7, [], [], [], [], [], is, fs, x1, gs, noE, [], -1, 0⟩ nS nS nS (.slice a1 (is).length b1) (.slice a5 (fs).length b5) (.slice a8 n8 b8) (.slice a11 (gs).length b11) nS nS) := Lib.hid (F12.out.group Q12.out)
  have c12 : w12.cell? ⟨(w.heap.size + 1), 17, none⟩ = some nS := bk_cell F13.out.blk 17
  have z12 : w12.frozen? ⟨(w.heap.size + 1), 17, none⟩ = false := bk_free F13.out.blk 17
  have HS12 : Hid ((w12.setCell ⟨(w.heap.size + 1), 17, none⟩ (.slice a11 (gs).length b11)) = w12.setRow (w.heap.size + 1) (s10 7 z0 z0 nS nS nS (.slice a1 (is).length b1) (.slice a5 (fs).length b5) x1.a (.slice a8 n8 b8) (.slice a11 (gs).length b11) nS ((-1)) 0)) := Lib.hid ((setCell_eq_setRow w12 (w.heap.size + 1) 17 _ _ _ (.slice a11 (gs).length b11) F13.out.blk).trans (congrArg (w12.setRow (w.heap.size + 1)) rfl))
  have F14 : Hid (Fs N B w.heap.size (w.heap.size + 1) (s10 7 z0 z0 nS nS nS (.slice a1 (is).length b1) (.slice a5 (fs).length b5) x1.a (.slice a8 n8 b8) (.slice a11 (gs).length b11) nS ((-1)) 0) w (w12.setCell ⟨(w.heap.size + 1), 17, none⟩ (.slice a11 (gs).length b11)) (t5) ⟨7, [], [], [], [], [], is, fs, x1, gs, noE, [], -1, 0⟩ nS nS nS (.slice a1 (is).length b1) (.slice a5 (fs).length b5) (.slice a8 n8 b8) (.slice a11 (gs).length b11) nS nS) := Lib.hid (by rw [HS12.out]; exact F13.out.set _)
  go_wp2_with fail
  refine (hH _ F14.out.z.rd).mono ?_
  rintro e w15 ⟨v14, rfl, hs, hr, hq⟩
  obtain ⟨a14, n14, b14, hu⟩ := hs.slice
  subst hu
  have F15 : Hid (Fs N B w.heap.size (w.heap.size + 1) (s10 7 z0 z0 nS nS nS (.slice a1 (is).length b1) (.slice a5 (fs).length b5) x1.a (.slice a8 n8 b8) (.slice a11 (gs).length b11) nS ((-1)) 0) w w15 (t6) ⟨7, [], [], [], [], [], is, fs, x1, gs, x2, [], -1, 0⟩ nS nS nS (.slice a1 (is).length b1) (.slice a5 (fs).length b5) (.slice a8 n8 b8) (.slice a11 (gs).length b11) (.slice a14 n14 b14) nS) := Lib.hid ((F14.out.call hr hq).having_ (e := x2) (F14.out.gotX hs))
  obtain ⟨w16, hw16⟩ : ∃ w16, w16 = w15.setRow (w.heap.size + 1) (s11 7 z0 z0 nS nS nS (.slice a1 (is).length b1) (.slice a5 (fs).length b5) x1.a (.slice a8 n8 b8) (.slice a11 (gs).length b11) x2.a (.slice a14 n14 b14) nS ((-1)) 0) := ⟨_, rfl⟩
  have F16 : Hid (Fs N B w.heap.size (w.heap.size + 1) (s11 7 z0 z0 nS nS nS (.slice a1 (is).length b1) (.slice a5 (fs).length b5) x1.a (.slice a8 n8 b8) (.slice a11 (gs).length b11) x2.a (.slice a14 n14 b14) nS ((-1)) 0) w w16 (t6) ⟨7, [], [], [], [], [], is, fs, x1, gs, x2, [], -1, 0⟩ nS nS nS (.slice a1 (is).length b1) (.slice a5 (fs).length b5) (.slice a8 n8 b8) (.slice a11 (gs).length b11) (.slice a14 n14 b14) nS) := Lib.hid (by rw [hw16]; exact F15.out.set _)
  clear hs hr hq
  unfold exVal
  go_wp2_with (first
    | (refine wpList_store_field rfl 36 _ _ rfl (w.heap.size + 1) 18 (eA x2.a (.slice a14 n14 b14)) rfl rfl _ _ F15.out.blk (by kernel_rfl) (by simp [Value.oneCell']) (by simp) (s11 7 z0 z0 nS nS nS (.slice a1 (is).length b1) (.slice a5 (fs).length b5) x1.a (.slice a8 n8 b8) (.slice a11 (gs).length b11) x2.a (.slice a14 n14 b14) nS ((-1)) 0) rfl ?_; rw [← hw16]; clear hw16))
  refine (hO _ F16.out.z.rd).mono ?_
  rintro e w17 ⟨rfl, hr, hq⟩
  have F17 := Lib.hid (F16.out.call hr hq)
  clear hr hq
  go_wp2_with fail
  refine (take_no N B t8 ⟨#[108, 105, 109, 105, 116]⟩ _ F17.out.z.rd hb).mono ?_
  rintro e w18 ⟨rfl, hr, hb17⟩
  have F18 := Lib.hid (F17.out.new hb17)
  clear hr hb17
  go_wp2_with (first
    | (refine wpList_load_row rfl 39 _ rfl (w.heap.size + 1) rfl _ (s11 7 z0 z0 nS nS nS (.slice a1 (is).length b1) (.slice a5 (fs).length b5) x1.a (.slice a8 n8 b8) (.slice a11 (gs).length b11) x2.a (.slice a14 n14 b14) nS ((-1)) 0) (0, 0) _ F18.out.blk Tryz.underlying39 rfl (by kernel_rfl) ?_)
    | (refine wpList_store_row rfl 39 _ _ rfl w.heap.size (s11 7 z0 z0 nS nS nS (.slice a1 (is).length b1) (.slice a5 (fs).length b5) x1.a (.slice a8 n8 b8) (.slice a11 (gs).length b11) x2.a (.slice a14 n14 b14) nS ((-1)) 0) rfl rfl _ _ F18.out.z.res (by kernel_rfl) rfl (by simp [Value.oneCell']) ?_))
  refine bodyPost_ret (results_cell_row Tryz.results55 _ _ w.heap.size 39 (s11 7 z0 z0 nS nS nS (.slice a1 (is).length b1) (.slice a5 (fs).length b5) x1.a (.slice a8 n8 b8) (.slice a11 (gs).length b11) x2.a (.slice a14 n14 b14) nS ((-1)) 0) (0, 0) _ rfl (setRow_heap _ _ _ _ _ _ F18.out.z.res) Tryz.underlying39 rfl (by kernel_rfl)) rfl ?_
  exact F18.out.done rfl
set_option maxRecDepth 100000 in
set_option maxHeartbeats 8000000 in
theorem select_101 (N B n : Nat) (hn : n ≤ 900000) (self : St → Ex × St) (hself : ReadsX N B n 35 self) (hle : Le self) (t : St) (w : World) (h : RdAt N w B t) (ht : t.rest.length ≤ n) (is : List ItemM) (fs : List FromM) (x1 : Ex) (t1 t2 t3 t4 t5 t6 t7 t8 t9 t10 : St) (gs : List Ex) (x2 : Ex) (os : List OrderM) (k k2 : Nat) (e1 : itemsP self t = (is, t1)) (e2 : tablesP self (t1.need wFrom) = (fs, t2)) (e3 : condP self wWhere t2 = (x1, t3)) (e4 : phraseP wGroup wBy t3 = (true, t4)) (e5 : listP self t4 = (gs, t5)) (e6 : condP self wHaving t5 = (x2, t6)) (e7 : phraseP wOrder wBy t6 = (false, t8)) (hb : t8.has wLimit = true) (e9 : numberP t8.step = (k, t9)) (hc : t9.has wOffset = false) :
    Calls Tryz.prog 55 #[.pointer (some ⟨B, 0, none⟩)] w (GivesS N B (⟨7, [], [], [], [], [], is, fs, x1, gs, x2, [], (k : Int), 0⟩, t9) w) := by
  have hmf : ∀ (fn : Fn) (first cap : Array Value) (w : World), (Instr.makeFunc fn first cap).run Tryz.prog w = .ok (.func fn first cap) w := fun _ _ _ _ => rfl
  have F0 : Hid (Fz N B w.heap.size 39 (s00 0 z0 z0 nS nS nS nS nS nS nS 0 0) w (w.alloc (.cells (s00 0 z0 z0 nS nS nS nS nS nS nS 0 0) 39)) t) := Lib.hid (Fz.start 39 (s00 0 z0 z0 nS nS nS nS nS nS nS 0 0) h)
  have hI := fun w h => items_tr N B n hn self hself hle t w h ht
  unfold GivesL at hI; rw [e1] at hI; dsimp only at hI
  have HL1 : Hid (t1.rest.length ≤ n) := Lib.hid (by have a := itemsP_le hle t; rw [e1] at a; dsimp only at a; skip; omega)
  have hT := fun w h => tables_tr N B n hn self hself hle (t1.need wFrom) w h (by have b := St.need_le t1 wFrom; have c := HL1.out; omega)
  unfold GivesL at hT; rw [e2] at hT; dsimp only at hT
  have HL2 : Hid (t2.rest.length ≤ n) := Lib.hid (by have a := tablesP_le hle (t1.need wFrom); rw [e2] at a; dsimp only at a; have b := St.need_le t1 wFrom; have c := HL1.out; omega)
  have hW := fun w h => condition_tr N B n self hself ⟨#[119, 104, 101, 114, 101]⟩ (by decide) t2 w h HL2.out
  rw [show condP self (⟨#[119, 104, 101, 114, 101]⟩ : ByteArray).data.toList t2 = condP self wWhere t2 from rfl] at hW
  unfold GivesX at hW; rw [e3] at hW; dsimp only at hW
  have HL3 : Hid (t3.rest.length ≤ n) := Lib.hid (by have a := condP_le hle wWhere t2; rw [e3] at a; dsimp only at a; have c := HL2.out; omega)
  have hG := fun w h => phrase_tr N B ⟨#[103, 114, 111, 117, 112]⟩ ⟨#[98, 121]⟩ (by decide) (by decide) t3 w h
  rw [show phraseP (⟨#[103, 114, 111, 117, 112]⟩ : ByteArray).data.toList (⟨#[98, 121]⟩ : ByteArray).data.toList t3 = phraseP wGroup wBy t3 from rfl, e4] at hG; dsimp only at hG
  have HL4 : Hid (t4.rest.length ≤ n) := Lib.hid (by have a := phraseP_le wGroup wBy t3; rw [e4] at a; dsimp only at a; have c := HL3.out; omega)
  have hL := fun w h => listEx_tr N B n 35 hn (fun _ _ => by kernel_rfl) self hself.row hle t4 w h HL4.out
  unfold GivesL at hL; rw [e5] at hL; dsimp only at hL
  have HL5 : Hid (t5.rest.length ≤ n) := Lib.hid (by have a := listP_le hle t4; rw [e5] at a; dsimp only at a; have c := HL4.out; omega)
  have hH := fun w h => condition_tr N B n self hself ⟨#[104, 97, 118, 105, 110, 103]⟩ (by decide) t5 w h HL5.out
  rw [show condP self (⟨#[104, 97, 118, 105, 110, 103]⟩ : ByteArray).data.toList t5 = condP self wHaving t5 from rfl] at hH
  unfold GivesX at hH; rw [e6] at hH; dsimp only at hH
  have HL6 : Hid (t6.rest.length ≤ n) := Lib.hid (by have a := condP_le hle wHaving t5; rw [e6] at a; dsimp only at a; have c := HL5.out; omega)
  have hO := fun w h => phrase_tr N B ⟨#[111, 114, 100, 101, 114]⟩ ⟨#[98, 121]⟩ (by decide) (by decide) t6 w h
  rw [show phraseP (⟨#[111, 114, 100, 101, 114]⟩ : ByteArray).data.toList (⟨#[98, 121]⟩ : ByteArray).data.toList t6 = phraseP wOrder wBy t6 from rfl, e7] at hO; dsimp only at hO
  have hK := fun w h => number_tr N B t8.step w h
  rw [e9] at hK; dsimp only at hK
  clear h e1 e2 e3 e4 e7 e5 e6 e9
  go_enter Tryz.func55, Tryz.ntmps55
  obtain ⟨w1, hw1⟩ : ∃ w1, w1 = ((w.alloc (.cells (s00 0 z0 z0 nS nS nS nS nS nS nS 0 0) 39)).alloc (.cells (s00 0 z0 z0 nS nS nS nS nS nS nS 0 0) 39)).setRow (w.heap.size + 1) (s00 7 z0 z0 nS nS nS nS nS nS nS ((-1)) 0) := ⟨_, rfl⟩
  have F1 : Hid (Fs N B w.heap.size (w.heap.size + 1) (s00 7 z0 z0 nS nS nS nS nS nS nS ((-1)) 0) w w1 (t) ⟨7, [], [], [], [], [], [], [], noE, [], noE, [], -1, 0⟩ nS nS nS nS nS nS nS nS nS) := Lib.hid (by rw [hw1]; exact Fs.begin F0.out (s00 7 z0 z0 nS nS nS nS nS nS nS ((-1)) 0) _ rfl)
  have ZX : Hid (((w.alloc (.cells (s00 0 z0 z0 nS nS nS nS nS nS nS 0 0) 39)).alloc (.cells (s00 0 z0 z0 nS nS nS nS nS nS nS 0 0) 39)).heap[w.heap.size + 1]? = some (.cells (s00 0 z0 z0 nS nS nS nS nS nS nS 0 0) 39 (0, 0))) := Lib.hid Fs.begin0
  go_wp2_with (first
    | (refine wpList_store_row rfl 39 _ _ rfl (w.heap.size + 1) (s00 7 z0 z0 nS nS nS nS nS nS nS ((-1)) 0) rfl rfl _ _ ZX.out (by kernel_rfl) rfl (by simp [Value.oneCell']) ?_; rw [← hw1]; clear hw1))
  refine (hI _ F1.out.z.rd).mono ?_
  rintro e w2 ⟨v1, rfl, hrow, hr, hq⟩
  obtain ⟨a1, b1, hv, _⟩ := hrow.slice
  subst hv
  have F2 := Lib.hid (F1.out.call hr hq)
  have Q2 := Lib.hid (F1.out.gotL hrow)
  clear hrow hr hq
  have F3 : Hid (Fs N B w.heap.size (w.heap.size + 1) (s00 7 z0 z0 nS nS nS nS nS nS nS ((-1)) 0) w w2 (t1) ⟨7, [], [], [], [], [], is, [], noE, [], noE, [], -1, 0⟩ nS nS nS (.slice a1 (is).length b1) nS nS nS nS nS) := Lib.hid (F2.out.items Q2.out)
  have c2 : w2.cell? ⟨(w.heap.size + 1), 6, none⟩ = some nS := bk_cell F3.out.blk 6
  have z2 : w2.frozen? ⟨(w.heap.size + 1), 6, none⟩ = false := bk_free F3.out.blk 6
  have HS2 : Hid ((w2.setCell ⟨(w.heap.size + 1), 6, none⟩ (.slice a1 (is).length b1)) = w2.setRow (w.heap.size + 1) (s00 7 z0 z0 nS nS nS (.slice a1 (is).length b1) nS nS nS ((-1)) 0)) := Lib.hid ((setCell_eq_setRow w2 (w.heap.size + 1) 6 _ _ _ (.slice a1 (is).length b1) F3.out.blk).trans (congrArg (w2.setRow (w.heap.size + 1)) rfl))
  have F4 : Hid (Fs N B w.heap.size (w.heap.size + 1) (s00 7 z0 z0 nS nS nS (.slice a1 (is).length b1) nS nS nS ((-1)) 0) w (w2.setCell ⟨(w.heap.size + 1), 6, none⟩ (.slice a1 (is).length b1)) (t1) ⟨7, [], [], [], [], [], is, [], noE, [], noE, [], -1, 0⟩ nS nS nS (.slice a1 (is).length b1) nS nS nS nS nS) := Lib.hid (by rw [HS2.out]; exact F3.out.set _)
  go_wp2_with fail
  refine (need_any N B t1 ⟨#[102, 114, 111, 109]⟩ _ F4.out.z.rd (by decide)).mono ?_
  rintro e w5 ⟨rfl, hr, hq⟩
  have F5 := Lib.hid (F4.out.call hr hq)
  clear hr hq
  go_wp2_with fail
  refine (hT _ F5.out.z.rd).mono ?_
  rintro e w6 ⟨v5, rfl, hrow, hr, hq⟩
  obtain ⟨a5, b5, hv, _⟩ := hrow.slice
  subst hv
  have F6 := Lib.hid (F5.out.call hr hq)
  have Q6 := Lib.hid (F5.out.gotL hrow)
  clear hrow hr hq
  have F7 : Hid (Fs N B w.heap.size (w.heap.size + 1) (s00 7 z0 z0 nS nS nS (.slice a1 (is).length b1) nS nS nS ((-1)) 0) w w6 (t2) ⟨7, [], [], [], [], [], is, fs, noE, [], noE, [], -1, 0⟩ nS nS nS (.slice a1 (is).length b1) (.slice a5 (fs).length b5) nS nS nS nS) := Lib.hid (F6.out.tables Q6.out)
  have c6 : w6.cell? ⟨(w.heap.size + 1), 7, none⟩ = some nS := bk_cell F7.out.blk 7
  have z6 : w6.frozen? ⟨(w.heap.size + 1), 7, none⟩ = false := bk_free F7.out.blk 7
  have HS6 : Hid ((w6.setCell ⟨(w.heap.size + 1), 7, none⟩ (.slice a5 (fs).length b5)) = w6.setRow (w.heap.size + 1) (s00 7 z0 z0 nS nS nS (.slice a1 (is).length b1) (.slice a5 (fs).length b5) nS nS ((-1)) 0)) := Lib.hid ((setCell_eq_setRow w6 (w.heap.size + 1) 7 _ _ _ (.slice a5 (fs).length b5) F7.out.blk).trans (congrArg (w6.setRow (w.heap.size + 1)) rfl))
  have F8 : Hid (Fs N B w.heap.size (w.heap.size + 1) (s00 7 z0 z0 nS nS nS (.slice a1 (is).length b1) (.slice a5 (fs).length b5) nS nS ((-1)) 0) w (w6.setCell ⟨(w.heap.size + 1), 7, none⟩ (.slice a5 (fs).length b5)) (t2) ⟨7, [], [], [], [], [], is, fs, noE, [], noE, [], -1, 0⟩ nS nS nS (.slice a1 (is).length b1) (.slice a5 (fs).length b5) nS nS nS nS) := Lib.hid (by rw [HS6.out]; exact F7.out.set _)
  go_wp2_with fail
  refine (hW _ F8.out.z.rd).mono ?_
  rintro e w9 ⟨v8, rfl, hs, hr, hq⟩
  obtain ⟨a8, n8, b8, hu⟩ := hs.slice
  subst hu
  have F9 : Hid (Fs N B w.heap.size (w.heap.size + 1) (s00 7 z0 z0 nS nS nS (.slice a1 (is).length b1) (.slice a5 (fs).length b5) nS nS ((-1)) 0) w w9 (t3) ⟨7, [], [], [], [], [], is, fs, x1, [], noE, [], -1, 0⟩ nS nS nS (.slice a1 (is).length b1) (.slice a5 (fs).length b5) (.slice a8 n8 b8) nS nS nS) := Lib.hid ((F8.out.call hr hq).cond (e := x1) (F8.out.gotX hs))
  obtain ⟨w10, hw10⟩ : ∃ w10, w10 = w9.setRow (w.heap.size + 1) (s10 7 z0 z0 nS nS nS (.slice a1 (is).length b1) (.slice a5 (fs).length b5) x1.a (.slice a8 n8 b8) nS nS ((-1)) 0) := ⟨_, rfl⟩
  have F10 : Hid (Fs N B w.heap.size (w.heap.size + 1) (s10 7 z0 z0 nS nS nS (.slice a1 (is).length b1) (.slice a5 (fs).length b5) x1.a (.slice a8 n8 b8) nS nS ((-1)) 0) w w10 (t3) ⟨7, [], [], [], [], [], is, fs, x1, [], noE, [], -1, 0⟩ nS nS nS (.slice a1 (is).length b1) (.slice a5 (fs).length b5) (.slice a8 n8 b8) nS nS nS) := Lib.hid (by rw [hw10]; exact F9.out.set _)
  clear hs hr hq
  unfold exVal
  go_wp2_with (first
    | (refine wpList_store_field rfl 36 _ _ rfl (w.heap.size + 1) 8 (eA x1.a (.slice a8 n8 b8)) rfl rfl _ _ F9.out.blk (by kernel_rfl) (by simp [Value.oneCell']) (by simp) (s10 7 z0 z0 nS nS nS (.slice a1 (is).length b1) (.slice a5 (fs).length b5) x1.a (.slice a8 n8 b8) nS nS ((-1)) 0) rfl ?_; rw [← hw10]; clear hw10))
  refine (hG _ F10.out.z.rd).mono ?_
  rintro e w11 ⟨rfl, hr, hq⟩
  have F11 := Lib.hid (F10.out.call hr hq)
  clear hr hq
  go_wp2_with fail
  refine (hL _ F11.out.z.rd).mono ?_
  rintro e w12 ⟨v11, rfl, hrow, hr, hq⟩
  obtain ⟨a11, b11, hv, _⟩ := hrow.slice
  subst hv
  have F12 := Lib.hid (F11.out.call hr hq)
  have Q12 := Lib.hid (F11.out.gotL hrow)
  clear hrow hr hq
  have F13 : Hid (Fs N B w.heap.size (w.heap.size + 1) (s10 7 z0 z0 nS nS nS (.slice a1 (is).length b1) (.slice a5 (fs).length b5) x1.a (.slice a8 n8 b8) nS nS ((-1)) 0) w w12 (t5) ⟨7, [], [], [], [], [], is, fs, x1, gs, noE, [], -1, 0⟩ nS nS nS (.slice a1 (is).length b1) (.slice a5 (fs).length b5) (.slice a8 n8 b8) (.slice a11 (gs).length b11) nS nS) := Lib.hid (F12.out.group Q12.out)
  have c12 : w12.cell? ⟨(w.heap.size + 1), 17, none⟩ = some nS := bk_cell F13.out.blk 17
  have z12 : w12.frozen? ⟨(w.heap.size + 1), 17, none⟩ = false := bk_free F13.out.blk 17
  have HS12 : Hid ((w12.setCell ⟨(w.heap.size + 1), 17, none⟩ (.slice a11 (gs).length b11)) = w12.setRow (w.heap.size + 1) (s10 7 z0 z0 nS nS nS (.slice a1 (is).length b1) (.slice a5 (fs).length b5) x1.a (.slice a8 n8 b8) (.slice a11 (gs).length b11) nS ((-1)) 0)) := Lib.hid ((setCell_eq_setRow w12 (w.heap.size + 1) 17 _ _ _ (.slice a11 (gs).length b11) F13.out.blk).trans (congrArg (w12.setRow (w.heap.size + 1)) rfl))
  have F14 : Hid (Fs N B w.heap.size (w.heap.size + 1) (s10 7 z0 z0 nS nS nS (.slice a1 (is).length b1) (.slice a5 (fs).length b5) x1.a (.slice a8 n8 b8) (.slice a11 (gs).length b11) nS ((-1)) 0) w (w12.setCell ⟨(w.heap.size + 1), 17, none⟩ (.slice a11 (gs).length b11)) (t5) ⟨7, [], [], [], [], [], is, fs, x1, gs, noE, [], -1, 0⟩ nS nS nS (.slice a1 (is).length b1) (.slice a5 (fs).length b5) (.slice a8 n8 b8) (.slice a11 (gs).length b11) nS nS) := Lib.hid (by rw [HS12.out]; exact F13.out.set _)
  go_wp2_with fail
  refine (hH _ F14.out.z.rd).mono ?_
  rintro e w15 ⟨v14, rfl, hs, hr, hq⟩
  obtain ⟨a14, n14, b14, hu⟩ := hs.slice
  subst hu
  have F15 : Hid (Fs N B w.heap.size (w.heap.size + 1) (s10 7 z0 z0 nS nS nS (.slice a1 (is).length b1) (.slice a5 (fs).length b5) x1.a (.slice a8 n8 b8) (.slice a11 (gs).length b11) nS ((-1)) 0) w w15 (t6) ⟨7, [], [], [], [], [], is, fs, x1, gs, x2, [], -1, 0⟩ nS nS nS (.slice a1 (is).length b1) (.slice a5 (fs).length b5) (.slice a8 n8 b8) (.slice a11 (gs).length b11) (.slice a14 n14 b14) nS) := Lib.hid ((F14.out.call hr hq).having_ (e := x2) (F14.out.gotX hs))
  obtain ⟨w16, hw16⟩ : ∃ w16, w16 = w15.setRow (w.heap.size + 1) (s11 7 z0 z0 nS nS nS (.slice a1 (is).length b1) (.slice a5 (fs).length b5) x1.a (.slice a8 n8 b8) (.slice a11 (gs).length b11) x2.a (.slice a14 n14 b14) nS ((-1)) 0) := ⟨_, rfl⟩
  have F16 : Hid (Fs N B w.heap.size (w.heap.size + 1) (s11 7 z0 z0 nS nS nS (.slice a1 (is).length b1) (.slice a5 (fs).length b5) x1.a (.slice a8 n8 b8) (.slice a11 (gs).length b11) x2.a (.slice a14 n14 b14) nS ((-1)) 0) w w16 (t6) ⟨7, [], [], [], [], [], is, fs, x1, gs, x2, [], -1, 0⟩ nS nS nS (.slice a1 (is).length b1) (.slice a5 (fs).length b5) (.slice a8 n8 b8) (.slice a11 (gs).length b11) (.slice a14 n14 b14) nS) := Lib.hid (by rw [hw16]; exact F15.out.set _)
  clear hs hr hq
  unfold exVal
  go_wp2_with (first
    | (refine wpList_store_field rfl 36 _ _ rfl (w.heap.size + 1) 18 (eA x2.a (.slice a14 n14 b14)) rfl rfl _ _ F15.out.blk (by kernel_rfl) (by simp [Value.oneCell']) (by simp) (s11 7 z0 z0 nS nS nS (.slice a1 (is).length b1) (.slice a5 (fs).length b5) x1.a (.slice a8 n8 b8) (.slice a11 (gs).length b11) x2.a (.slice a14 n14 b14) nS ((-1)) 0) rfl ?_; rw [← hw16]; clear hw16))
  refine (hO _ F16.out.z.rd).mono ?_
  rintro e w17 ⟨rfl, hr, hq⟩
  have F17 := Lib.hid (F16.out.call hr hq)
  clear hr hq
  go_wp2_with fail
  refine (take_yes N B t8 ⟨#[108, 105, 109, 105, 116]⟩ _ F17.out.z.rd hb (by decide)).mono ?_
  rintro e w18 ⟨rfl, hr, hq⟩
  have F18 := Lib.hid (F17.out.call hr hq)
  clear hr hq
  go_wp2_with fail
  refine (hK _ F18.out.z.rd).mono ?_
  rintro e w19 ⟨rfl, hr, hq⟩
  have F19 := Lib.hid (F18.out.call hr hq)
  clear hr hq
  have F20 : Hid (Fs N B w.heap.size (w.heap.size + 1) (s11 7 z0 z0 nS nS nS (.slice a1 (is).length b1) (.slice a5 (fs).length b5) x1.a (.slice a8 n8 b8) (.slice a11 (gs).length b11) x2.a (.slice a14 n14 b14) nS ((-1)) 0) w w19 (t9) ⟨7, [], [], [], [], [], is, fs, x1, gs, x2, [], (k : Int), 0⟩ nS nS nS (.slice a1 (is).length b1) (.slice a5 (fs).length b5) (.slice a8 n8 b8) (.slice a11 (gs).length b11) (.slice a14 n14 b14) nS) := Lib.hid (F19.out.limit (k : Int))
  have c19 : w19.cell? ⟨(w.heap.size + 1), 28, none⟩ = some (.int .i64 (-1)) := bk_cell F20.out.blk 28
  have z19 : w19.frozen? ⟨(w.heap.size + 1), 28, none⟩ = false := bk_free F20.out.blk 28
  have HS19 : Hid ((w19.setCell ⟨(w.heap.size + 1), 28, none⟩ (.int .i64 (k : Int))) = w19.setRow (w.heap.size + 1) (s11 7 z0 z0 nS nS nS (.slice a1 (is).length b1) (.slice a5 (fs).length b5) x1.a (.slice a8 n8 b8) (.slice a11 (gs).length b11) x2.a (.slice a14 n14 b14) nS ((k : Int)) 0)) := Lib.hid ((setCell_eq_setRow w19 (w.heap.size + 1) 28 _ _ _ (.int .i64 (k : Int)) F20.out.blk).trans (congrArg (w19.setRow (w.heap.size + 1)) rfl))
  have F21 : Hid (Fs N B w.heap.size (w.heap.size + 1) (s11 7 z0 z0 nS nS nS (.slice a1 (is).length b1) (.slice a5 (fs).length b5) x1.a (.slice a8 n8 b8) (.slice a11 (gs).length b11) x2.a (.slice a14 n14 b14) nS ((k : Int)) 0) w (w19.setCell ⟨(w.heap.size + 1), 28, none⟩ (.int .i64 (k : Int))) (t9) ⟨7, [], [], [], [], [], is, fs, x1, gs, x2, [], (k : Int), 0⟩ nS nS nS (.slice a1 (is).length b1) (.slice a5 (fs).length b5) (.slice a8 n8 b8) (.slice a11 (gs).length b11) (.slice a14 n14 b14) nS) := Lib.hid (by rw [HS19.out]; exact F20.out.set _)
  go_wp2_with fail
  refine (take_no N B t9 ⟨#[111, 102, 102, 115, 101, 116]⟩ _ F21.out.z.rd hc).mono ?_
  rintro e w22 ⟨rfl, hr, hb21⟩
  have F22 := Lib.hid (F21.out.new hb21)
  clear hr hb21
  go_wp2_with (first
    | (refine wpList_load_row rfl 39 _ rfl (w.heap.size + 1) rfl _ (s11 7 z0 z0 nS nS nS (.slice a1 (is).length b1) (.slice a5 (fs).length b5) x1.a (.slice a8 n8 b8) (.slice a11 (gs).length b11) x2.a (.slice a14 n14 b14) nS ((k : Int)) 0) (0, 0) _ F22.out.blk Tryz.underlying39 rfl (by kernel_rfl) ?_)
    | (refine wpList_store_row rfl 39 _ _ rfl w.heap.size (s11 7 z0 z0 nS nS nS (.slice a1 (is).length b1) (.slice a5 (fs).length b5) x1.a (.slice a8 n8 b8) (.slice a11 (gs).length b11) x2.a (.slice a14 n14 b14) nS ((k : Int)) 0) rfl rfl _ _ F22.out.z.res (by kernel_rfl) rfl (by simp [Value.oneCell']) ?_))
  refine bodyPost_ret (results_cell_row Tryz.results55 _ _ w.heap.size 39 (s11 7 z0 z0 nS nS nS (.slice a1 (is).length b1) (.slice a5 (fs).length b5) x1.a (.slice a8 n8 b8) (.slice a11 (gs).length b11) x2.a (.slice a14 n14 b14) nS ((k : Int)) 0) (0, 0) _ rfl (setRow_heap _ _ _ _ _ _ F22.out.z.res) Tryz.underlying39 rfl (by kernel_rfl)) rfl ?_
  exact F22.out.done rfl
set_option maxRecDepth 100000 in
set_option maxHeartbeats 8000000 in
theorem select_102 (N B n : Nat) (hn : n ≤ 900000) (self : St → Ex × St) (hself : ReadsX N B n 35 self) (hle : Le self) (t : St) (w : World) (h : RdAt N w B t) (ht : t.rest.length ≤ n) (is : List ItemM) (fs : List FromM) (x1 : Ex) (t1 t2 t3 t4 t5 t6 t7 t8 t9 t10 : St) (gs : List Ex) (x2 : Ex) (os : List OrderM) (k k2 : Nat) (e1 : itemsP self t = (is, t1)) (e2 : tablesP self (t1.need wFrom) = (fs, t2)) (e3 : condP self wWhere t2 = (x1, t3)) (e4 : phraseP wGroup wBy t3 = (true, t4)) (e5 : listP self t4 = (gs, t5)) (e6 : condP self wHaving t5 = (x2, t6)) (e7 : phraseP wOrder wBy t6 = (false, t8)) (hb : t8.has wLimit = true) (e9 : numberP t8.step = (k, t9)) (hc : t9.has wOffset = true) (e10 : numberP t9.step = (k2, t10)) :
    Calls Tryz.prog 55 #[.pointer (some ⟨B, 0, none⟩)] w (GivesS N B (⟨7, [], [], [], [], [], is, fs, x1, gs, x2, [], (k : Int), (k2 : Int)⟩, t10) w) := by
  have hmf : ∀ (fn : Fn) (first cap : Array Value) (w : World), (Instr.makeFunc fn first cap).run Tryz.prog w = .ok (.func fn first cap) w := fun _ _ _ _ => rfl
  have F0 : Hid (Fz N B w.heap.size 39 (s00 0 z0 z0 nS nS nS nS nS nS nS 0 0) w (w.alloc (.cells (s00 0 z0 z0 nS nS nS nS nS nS nS 0 0) 39)) t) := Lib.hid (Fz.start 39 (s00 0 z0 z0 nS nS nS nS nS nS nS 0 0) h)
  have hI := fun w h => items_tr N B n hn self hself hle t w h ht
  unfold GivesL at hI; rw [e1] at hI; dsimp only at hI
  have HL1 : Hid (t1.rest.length ≤ n) := Lib.hid (by have a := itemsP_le hle t; rw [e1] at a; dsimp only at a; skip; omega)
  have hT := fun w h => tables_tr N B n hn self hself hle (t1.need wFrom) w h (by have b := St.need_le t1 wFrom; have c := HL1.out; omega)
  unfold GivesL at hT; rw [e2] at hT; dsimp only at hT
  have HL2 : Hid (t2.rest.length ≤ n) := Lib.hid (by have a := tablesP_le hle (t1.need wFrom); rw [e2] at a; dsimp only at a; have b := St.need_le t1 wFrom; have c := HL1.out; omega)
  have hW := fun w h => condition_tr N B n self hself ⟨#[119, 104, 101, 114, 101]⟩ (by decide) t2 w h HL2.out
  rw [show condP self (⟨#[119, 104, 101, 114, 101]⟩ : ByteArray).data.toList t2 = condP self wWhere t2 from rfl] at hW
  unfold GivesX at hW; rw [e3] at hW; dsimp only at hW
  have HL3 : Hid (t3.rest.length ≤ n) := Lib.hid (by have a := condP_le hle wWhere t2; rw [e3] at a; dsimp only at a; have c := HL2.out; omega)
  have hG := fun w h => phrase_tr N B ⟨#[103, 114, 111, 117, 112]⟩ ⟨#[98, 121]⟩ (by decide) (by decide) t3 w h
  rw [show phraseP (⟨#[103, 114, 111, 117, 112]⟩ : ByteArray).data.toList (⟨#[98, 121]⟩ : ByteArray).data.toList t3 = phraseP wGroup wBy t3 from rfl, e4] at hG; dsimp only at hG
  have HL4 : Hid (t4.rest.length ≤ n) := Lib.hid (by have a := phraseP_le wGroup wBy t3; rw [e4] at a; dsimp only at a; have c := HL3.out; omega)
  have hL := fun w h => listEx_tr N B n 35 hn (fun _ _ => by kernel_rfl) self hself.row hle t4 w h HL4.out
  unfold GivesL at hL; rw [e5] at hL; dsimp only at hL
  have HL5 : Hid (t5.rest.length ≤ n) := Lib.hid (by have a := listP_le hle t4; rw [e5] at a; dsimp only at a; have c := HL4.out; omega)
  have hH := fun w h => condition_tr N B n self hself ⟨#[104, 97, 118, 105, 110, 103]⟩ (by decide) t5 w h HL5.out
  rw [show condP self (⟨#[104, 97, 118, 105, 110, 103]⟩ : ByteArray).data.toList t5 = condP self wHaving t5 from rfl] at hH
  unfold GivesX at hH; rw [e6] at hH; dsimp only at hH
  have HL6 : Hid (t6.rest.length ≤ n) := Lib.hid (by have a := condP_le hle wHaving t5; rw [e6] at a; dsimp only at a; have c := HL5.out; omega)
  have hO := fun w h => phrase_tr N B ⟨#[111, 114, 100, 101, 114]⟩ ⟨#[98, 121]⟩ (by decide) (by decide) t6 w h
  rw [show phraseP (⟨#[111, 114, 100, 101, 114]⟩ : ByteArray).data.toList (⟨#[98, 121]⟩ : ByteArray).data.toList t6 = phraseP wOrder wBy t6 from rfl, e7] at hO; dsimp only at hO
  have hK := fun w h => number_tr N B t8.step w h
  rw [e9] at hK; dsimp only at hK
  have hM := fun w h => number_tr N B t9.step w h
  rw [e10] at hM; dsimp only at hM
  clear h e1 e2 e3 e4 e7 e5 e6 e9 e10
  go_enter Tryz.func55, Tryz.ntmps55
  obtain ⟨w1, hw1⟩ : ∃ w1, w1 = ((w.alloc (.cells (s00 0 z0 z0 nS nS nS nS nS nS nS 0 0) 39)).alloc (.cells (s00 0 z0 z0 nS nS nS nS nS nS nS 0 0) 39)).setRow (w.heap.size + 1) (s00 7 z0 z0 nS nS nS nS nS nS nS ((-1)) 0) := ⟨_, rfl⟩
  have F1 : Hid (Fs N B w.heap.size (w.heap.size + 1) (s00 7 z0 z0 nS nS nS nS nS nS nS ((-1)) 0) w w1 (t) ⟨7, [], [], [], [], [], [], [], noE, [], noE, [], -1, 0⟩ nS nS nS nS nS nS nS nS nS) := Lib.hid (by rw [hw1]; exact Fs.begin F0.out (s00 7 z0 z0 nS nS nS nS nS nS nS ((-1)) 0) _ rfl)
  have ZX : Hid (((w.alloc (.cells (s00 0 z0 z0 nS nS nS nS nS nS nS 0 0) 39)).alloc (.cells (s00 0 z0 z0 nS nS nS nS nS nS nS 0 0) 39)).heap[w.heap.size + 1]? = some (.cells (s00 0 z0 z0 nS nS nS nS nS nS nS 0 0) 39 (0, 0))) := Lib.hid Fs.begin0
  go_wp2_with (first
    | (refine wpList_store_row rfl 39 _ _ rfl (w.heap.size + 1) (s00 7 z0 z0 nS nS nS nS nS nS nS ((-1)) 0) rfl rfl _ _ ZX.out (by kernel_rfl) rfl (by simp [Value.oneCell']) ?_; rw [← hw1]; clear hw1))
  refine (hI _ F1.out.z.rd).mono ?_
  rintro e w2 ⟨v1, rfl, hrow, hr, hq⟩
  obtain ⟨a1, b1, hv, _⟩ := hrow.slice
  subst hv
  have F2 := Lib.hid (F1.out.call hr hq)
  have Q2 := Lib.hid (F1.out.gotL hrow)
  clear hrow hr hq
  have F3 : Hid (Fs N B w.heap.size (w.heap.size + 1) (s00 7 z0 z0 nS nS nS nS nS nS nS ((-1)) 0) w w2 (t1) ⟨7, [], [], [], [], [], is, [], noE, [], noE, [], -1, 0⟩ nS nS nS (.slice a1 (is).length b1) nS nS nS nS nS) := Lib.hid (F2.out.items Q2.out)
  have c2 : w2.cell? ⟨(w.heap.size + 1), 6, none⟩ = some nS := bk_cell F3.out.blk 6
  have z2 : w2.frozen? ⟨(w.heap.size + 1), 6, none⟩ = false := bk_free F3.out.blk 6
  have HS2 : Hid ((w2.setCell ⟨(w.heap.size + 1), 6, none⟩ (.slice a1 (is).length b1)) = w2.setRow (w.heap.size + 1) (s00 7 z0 z0 nS nS nS (.slice a1 (is).length b1) nS nS nS ((-1)) 0)) := Lib.hid ((setCell_eq_setRow w2 (w.heap.size + 1) 6 _ _ _ (.slice a1 (is).length b1) F3.out.blk).trans (congrArg (w2.setRow (w.heap.size + 1)) rfl))
  have F4 : Hid (Fs N B w.heap.size (w.heap.size + 1) (s00 7 z0 z0 nS nS nS (.slice a1 (is).length b1) nS nS nS ((-1)) 0) w (w2.setCell ⟨(w.heap.size + 1), 6, none⟩ (.slice a1 (is).length b1)) (t1) ⟨7, [], [], [], [], [], is, [], noE, [], noE, [], -1, 0⟩ nS nS nS (.slice a1 (is).length b1) nS nS nS nS nS) := Lib.hid (by rw [HS2.out]; exact F3.out.set _)
  go_wp2_with fail
  refine (need_any N B t1 ⟨#[102, 114, 111, 109]⟩ _ F4.out.z.rd (by decide)).mono ?_
  rintro e w5 ⟨rfl, hr, hq⟩
  have F5 := Lib.hid (F4.out.call hr hq)
  clear hr hq
  go_wp2_with fail
  refine (hT _ F5.out.z.rd).mono ?_
  rintro e w6 ⟨v5, rfl, hrow, hr, hq⟩
  obtain ⟨a5, b5, hv, _⟩ := hrow.slice
  subst hv
  have F6 := Lib.hid (F5.out.call hr hq)
  have Q6 := Lib.hid (F5.out.gotL hrow)
  clear hrow hr hq
  have F7 : Hid (Fs N B w.heap.size (w.heap.size + 1) (s00 7 z0 z0 nS nS nS (.slice a1 (is).length b1) nS nS nS ((-1)) 0) w w6 (t2) ⟨7, [], [], [], [], [], is, fs, noE, [], noE, [], -1, 0⟩ nS nS nS (.slice a1 (is).length b1) (.slice a5 (fs).length b5) nS nS nS nS) := Lib.hid (F6.out.tables Q6.out)
  have c6 : w6.cell? ⟨(w.heap.size + 1), 7, none⟩ = some nS := bk_cell F7.out.blk 7
  have z6 : w6.frozen? ⟨(w.heap.size + 1), 7, none⟩ = false := bk_free F7.out.blk 7
  have HS6 : Hid ((w6.setCell ⟨(w.heap.size + 1), 7, none⟩ (.slice a5 (fs).length b5)) = w6.setRow (w.heap.size + 1) (s00 7 z0 z0 nS nS nS (.slice a1 (is).length b1) (.slice a5 (fs).length b5) nS nS ((-1)) 0)) := Lib.hid ((setCell_eq_setRow w6 (w.heap.size + 1) 7 _ _ _ (.slice a5 (fs).length b5) F7.out.blk).trans (congrArg (w6.setRow (w.heap.size + 1)) rfl))
  have F8 : Hid (Fs N B w.heap.size (w.heap.size + 1) (s00 7 z0 z0 nS nS nS (.slice a1 (is).length b1) (.slice a5 (fs).length b5) nS nS ((-1)) 0) w (w6.setCell ⟨(w.heap.size + 1), 7, none⟩ (.slice a5 (fs).length b5)) (t2) ⟨7, [], [], [], [], [], is, fs, noE, [], noE, [], -1, 0⟩ nS nS nS (.slice a1 (is).length b1) (.slice a5 (fs).length b5) nS nS nS nS) := Lib.hid (by rw [HS6.out]; exact F7.out.set _)
  go_wp2_with fail
  refine (hW _ F8.out.z.rd).mono ?_
  rintro e w9 ⟨v8, rfl, hs, hr, hq⟩
  obtain ⟨a8, n8, b8, hu⟩ := hs.slice
  subst hu
  have F9 : Hid (Fs N B w.heap.size (w.heap.size + 1) (s00 7 z0 z0 nS nS nS (.slice a1 (is).length b1) (.slice a5 (fs).length b5) nS nS ((-1)) 0) w w9 (t3) ⟨7, [], [], [], [], [], is, fs, x1, [], noE, [], -1, 0⟩ nS nS nS (.slice a1 (is).length b1) (.slice a5 (fs).length b5) (.slice a8 n8 b8) nS nS nS) := Lib.hid ((F8.out.call hr hq).cond (e := x1) (F8.out.gotX hs))
  obtain ⟨w10, hw10⟩ : ∃ w10, w10 = w9.setRow (w.heap.size + 1) (s10 7 z0 z0 nS nS nS (.slice a1 (is).length b1) (.slice a5 (fs).length b5) x1.a (.slice a8 n8 b8) nS nS ((-1)) 0) := ⟨_, rfl⟩
  have F10 : Hid (Fs N B w.heap.size (w.heap.size + 1) (s10 7 z0 z0 nS nS nS (.slice a1 (is).length b1) (.slice a5 (fs).length b5) x1.a (.slice a8 n8 b8) nS nS ((-1)) 0) w w10 (t3) ⟨7, [], [], [], [], [], is, fs, x1, [], noE, [], -1, 0⟩ nS nS nS (.slice a1 (is).length b1) (.slice a5 (fs).length b5) (.slice a8 n8 b8) nS nS nS) := Lib.hid (by rw [hw10]; exact F9.out.set _)
  clear hs hr hq
  unfold exVal
  go_wp2_with (first
    | (refine wpList_store_field rfl 36 _ _ rfl (w.heap.size + 1) 8 (eA x1.a (.slice a8 n8 b8)) rfl rfl _ _ F9.out.blk (by kernel_rfl) (by simp [Value.oneCell']) (by simp) (s10 7 z0 z0 nS nS nS (.slice a1 (is).length b1) (.slice a5 (fs).length b5) x1.a (.slice a8 n8 b8) nS nS ((-1)) 0) rfl ?_; rw [← hw10]; clear hw10))
  refine (hG _ F10.out.z.rd).mono ?_
  rintro e w11 ⟨rfl, hr, hq⟩
  have F11 := Lib.hid (F10.out.call hr hq)
  clear hr hq
  go_wp2_with fail
  refine (hL _ F11.out.z.rd).mono ?_
  rintro e w12 ⟨v11, rfl, hrow, hr, hq⟩
  obtain ⟨a11, b11, hv, _⟩ := hrow.slice
  subst hv
  have F12 := Lib.hid (F11.out.call hr hq)
  have Q12 := Lib.hid (F11.out.gotL hrow)
  clear hrow hr hq
  have F13 : Hid (Fs N B w.heap.size (w.heap.size + 1) (s10 7 z0 z0 nS nS nS (.slice a1 (is).length b1) (.slice a5 (fs).length b5) x1.a (.slice a8 n8 b8) nS nS ((-1)) 0) w w12 (t5) ⟨7, [], [], [], [], [], is, fs, x1, gs, noE, [], -1, 0⟩ nS nS nS (.slice a1 (is).length b1) (.slice a5 (fs).length b5) (.slice a8 n8 b8) (.slice a11 (gs).length b11) nS nS) := Lib.hid (F12.out.group Q12.out)
  have c12 : w12.cell? ⟨(w.heap.size + 1), 17, none⟩ = some nS := bk_cell F13.out.blk 17
  have z12 : w12.frozen? ⟨(w.heap.size + 1), 17, none⟩ = false := bk_free F13.out.blk 17
  have HS12 : Hid ((w12.setCell ⟨(w.heap.size + 1), 17, none⟩ (.slice a11 (gs).length b11)) = w12.setRow (w.heap.size + 1) (s10 7 z0 z0 nS nS nS (.slice a1 (is).length b1) (.slice a5 (fs).length b5) x1.a (.slice a8 n8 b8) (.slice a11 (gs).length b11) nS ((-1)) 0)) := Lib.hid ((setCell_eq_setRow w12 (w.heap.size + 1) 17 _ _ _ (.slice a11 (gs).length b11) F13.out.blk).trans (congrArg (w12.setRow (w.heap.size + 1)) rfl))
  have F14 : Hid (Fs N B w.heap.size (w.heap.size + 1) (s10 7 z0 z0 nS nS nS (.slice a1 (is).length b1) (.slice a5 (fs).length b5) x1.a (.slice a8 n8 b8) (.slice a11 (gs).length b11) nS ((-1)) 0) w (w12.setCell ⟨(w.heap.size + 1), 17, none⟩ (.slice a11 (gs).length b11)) (t5) ⟨7, [], [], [], [], [], is, fs, x1, gs, noE, [], -1, 0⟩ nS nS nS (.slice a1 (is).length b1) (.slice a5 (fs).length b5) (.slice a8 n8 b8) (.slice a11 (gs).length b11) nS nS) := Lib.hid (by rw [HS12.out]; exact F13.out.set _)
  go_wp2_with fail
  refine (hH _ F14.out.z.rd).mono ?_
  rintro e w15 ⟨v14, rfl, hs, hr, hq⟩
  obtain ⟨a14, n14, b14, hu⟩ := hs.slice
  subst hu
  have F15 : Hid (Fs N B w.heap.size (w.heap.size + 1) (s10 7 z0 z0 nS nS nS (.slice a1 (is).length b1) (.slice a5 (fs).length b5) x1.a (.slice a8 n8 b8) (.slice a11 (gs).length b11) nS ((-1)) 0) w w15 (t6) ⟨7, [], [], [], [], [], is, fs, x1, gs, x2, [], -1, 0⟩ nS nS nS (.slice a1 (is).length b1) (.slice a5 (fs).length b5) (.slice a8 n8 b8) (.slice a11 (gs).length b11) (.slice a14 n14 b14) nS) := Lib.hid ((F14.out.call hr hq).having_ (e := x2) (F14.out.gotX hs))
  obtain ⟨w16, hw16⟩ : ∃ w16, w16 = w15.setRow (w.heap.size + 1) (s11 7 z0 z0 nS nS nS (.slice a1 (is).length b1) (.slice a5 (fs).length b5) x1.a (.slice a8 n8 b8) (.slice a11 (gs).length b11) x2.a (.slice a14 n14 b14) nS ((-1)) 0) := ⟨_, rfl⟩
  have F16 : Hid (Fs N B w.heap.size (w.heap.size + 1) (s11 7 z0 z0 nS nS nS (.slice a1 (is).length b1) (.slice a5 (fs).length b5) x1.a (.slice a8 n8 b8) (.slice a11 (gs).length b11) x2.a (.slice a14 n14 b14) nS ((-1)) 0) w w16 (t6) ⟨7, [], [], [], [], [], is, fs, x1, gs, x2, [], -1, 0⟩ nS nS nS (.slice a1 (is).length b1) (.slice a5 (fs).length b5) (.slice a8 n8 b8) (.slice a11 (gs).length b11) (.slice a14 n14 b14) nS) := Lib.hid (by rw [hw16]; exact F15.out.set _)
  clear hs hr hq
  unfold exVal
  go_wp2_with (first
    | (refine wpList_store_field rfl 36 _ _ rfl (w.heap.size + 1) 18 (eA x2.a (.slice a14 n14 b14)) rfl rfl _ _ F15.out.blk (by kernel_rfl) (by simp [Value.oneCell']) (by simp) (s11 7 z0 z0 nS nS nS (.slice a1 (is).length b1) (.slice a5 (fs).length b5) x1.a (.slice a8 n8 b8) (.slice a11 (gs).length b11) x2.a (.slice a14 n14 b14) nS ((-1)) 0) rfl ?_; rw [← hw16]; clear hw16))
  refine (hO _ F16.out.z.rd).mono ?_
  rintro e w17 ⟨rfl, hr, hq⟩
  have F17 := Lib.hid (F16.out.call hr hq)
  clear hr hq
  go_wp2_with fail
  refine (take_yes N B t8 ⟨#[108, 105, 109, 105, 116]⟩ _ F17.out.z.rd hb (by decide)).mono ?_
  rintro e w18 ⟨rfl, hr, hq⟩
  have F18 := Lib.hid (F17.out.call hr hq)
  clear hr hq
  go_wp2_with fail
  refine (hK _ F18.out.z.rd).mono ?_
  rintro e w19 ⟨rfl, hr, hq⟩
  have F19 := Lib.hid (F18.out.call hr hq)
  clear hr hq
  have F20 : Hid (Fs N B w.heap.size (w.heap.size + 1) (s11 7 z0 z0 nS nS nS (.slice a1 (is).length b1) (.slice a5 (fs).length b5) x1.a (.slice a8 n8 b8) (.slice a11 (gs).length b11) x2.a (.slice a14 n14 b14) nS ((-1)) 0) w w19 (t9) ⟨7, [], [], [], [], [], is, fs, x1, gs, x2, [], (k : Int), 0⟩ nS nS nS (.slice a1 (is).length b1) (.slice a5 (fs).length b5) (.slice a8 n8 b8) (.slice a11 (gs).length b11) (.slice a14 n14 b14) nS) := Lib.hid (F19.out.limit (k : Int))
  have c19 : w19.cell? ⟨(w.heap.size + 1), 28, none⟩ = some (.int .i64 (-1)) := bk_cell F20.out.blk 28
  have z19 : w19.frozen? ⟨(w.heap.size + 1), 28, none⟩ = false := bk_free F20.out.blk 28
  have HS19 : Hid ((w19.setCell ⟨(w.heap.size + 1), 28, none⟩ (.int .i64 (k : Int))) = w19.setRow (w.heap.size + 1) (s11 7 z0 z0 nS nS nS (.slice a1 (is).length b1) (.slice a5 (fs).length b5) x1.a (.slice a8 n8 b8) (.slice a11 (gs).length b11) x2.a (.slice a14 n14 b14) nS ((k : Int)) 0)) := Lib.hid ((setCell_eq_setRow w19 (w.heap.size + 1) 28 _ _ _ (.int .i64 (k : Int)) F20.out.blk).trans (congrArg (w19.setRow (w.heap.size + 1)) rfl))
  have F21 : Hid (Fs N B w.heap.size (w.heap.size + 1) (s11 7 z0 z0 nS nS nS (.slice a1 (is).length b1) (.slice a5 (fs).length b5) x1.a (.slice a8 n8 b8) (.slice a11 (gs).length b11) x2.a (.slice a14 n14 b14) nS ((k : Int)) 0) w (w19.setCell ⟨(w.heap.size + 1), 28, none⟩ (.int .i64 (k : Int))) (t9) ⟨7, [], [], [], [], [], is, fs, x1, gs, x2, [], (k : Int), 0⟩ nS nS nS (.slice a1 (is).length b1) (.slice a5 (fs).length b5) (.slice a8 n8 b8) (.slice a11 (gs).length b11) (.slice a14 n14 b14) nS) := Lib.hid (by rw [HS19.out]; exact F20.out.set _)
  go_wp2_with fail
  refine (take_yes N B t9 ⟨#[111, 102, 102, 115, 101, 116]⟩ _ F21.out.z.rd hc (by decide)).mono ?_
  rintro e w22 ⟨rfl, hr, hq⟩
  have F22 := Lib.hid (F21.out.call hr hq)
  clear hr hq
  go_wp2_with fail
  refine (hM _ F22.out.z.rd).mono ?_
  rintro e w23 ⟨rfl, hr, hq⟩
  have F23 := Lib.hid (F22.out.call hr hq)
  clear hr hq
  have F24 : Hid (Fs N B w.heap.size (w.heap.size + 1) (s11 7 z0 z0 nS nS nS (.slice a1 (is).length b1) (.slice a5 (fs).length b5) x1.a (.slice a8 n8 b8) (.slice a11 (gs).length b11) x2.a (.slice a14 n14 b14) nS ((k : Int)) 0) w w23 (t10) ⟨7, [], [], [], [], [], is, fs, x1, gs, x2, [], (k : Int), (k2 : Int)⟩ nS nS nS (.slice a1 (is).length b1) (.slice a5 (fs).length b5) (.slice a8 n8 b8) (.slice a11 (gs).length b11) (.slice a14 n14 b14) nS) := Lib.hid (F23.out.skip (k2 : Int))
  have c23 : w23.cell? ⟨(w.heap.size + 1), 29, none⟩ = some (.int .i64 0) := bk_cell F24.out.blk 29
  have z23 : w23.frozen? ⟨(w.heap.size + 1), 29, none⟩ = false := bk_free F24.out.blk 29
  have HS23 : Hid ((w23.setCell ⟨(w.heap.size + 1), 29, none⟩ (.int .i64 (k2 : Int))) = w23.setRow (w.heap.size + 1) (s11 7 z0 z0 nS nS nS (.slice a1 (is).length b1) (.slice a5 (fs).length b5) x1.a (.slice a8 n8 b8) (.slice a11 (gs).length b11) x2.a (.slice a14 n14 b14) nS ((k : Int)) ((k2 : Int)))) := Lib.hid ((setCell_eq_setRow w23 (w.heap.size + 1) 29 _ _ _ (.int .i64 (k2 : Int)) F24.out.blk).trans (congrArg (w23.setRow (w.heap.size + 1)) rfl))
  have F25 : Hid (Fs N B w.heap.size (w.heap.size + 1) (s11 7 z0 z0 nS nS nS (.slice a1 (is).length b1) (.slice a5 (fs).length b5) x1.a (.slice a8 n8 b8) (.slice a11 (gs).length b11) x2.a (.slice a14 n14 b14) nS ((k : Int)) ((k2 : Int))) w (w23.setCell ⟨(w.heap.size + 1), 29, none⟩ (.int .i64 (k2 : Int))) (t10) ⟨7, [], [], [], [], [], is, fs, x1, gs, x2, [], (k : Int), (k2 : Int)⟩ nS nS nS (.slice a1 (is).length b1) (.slice a5 (fs).length b5) (.slice a8 n8 b8) (.slice a11 (gs).length b11) (.slice a14 n14 b14) nS) := Lib.hid (by rw [HS23.out]; exact F24.out.set _)
  go_wp2_with (first
    | (refine wpList_load_row rfl 39 _ rfl (w.heap.size + 1) rfl _ (s11 7 z0 z0 nS nS nS (.slice a1 (is).length b1) (.slice a5 (fs).length b5) x1.a (.slice a8 n8 b8) (.slice a11 (gs).length b11) x2.a (.slice a14 n14 b14) nS ((k : Int)) ((k2 : Int))) (0, 0) _ F25.out.blk Tryz.underlying39 rfl (by kernel_rfl) ?_)
    | (refine wpList_store_row rfl 39 _ _ rfl w.heap.size (s11 7 z0 z0 nS nS nS (.slice a1 (is).length b1) (.slice a5 (fs).length b5) x1.a (.slice a8 n8 b8) (.slice a11 (gs).length b11) x2.a (.slice a14 n14 b14) nS ((k : Int)) ((k2 : Int))) rfl rfl _ _ F25.out.z.res (by kernel_rfl) rfl (by simp [Value.oneCell']) ?_))
  refine bodyPost_ret (results_cell_row Tryz.results55 _ _ w.heap.size 39 (s11 7 z0 z0 nS nS nS (.slice a1 (is).length b1) (.slice a5 (fs).length b5) x1.a (.slice a8 n8 b8) (.slice a11 (gs).length b11) x2.a (.slice a14 n14 b14) nS ((k : Int)) ((k2 : Int))) (0, 0) _ rfl (setRow_heap _ _ _ _ _ _ F25.out.z.res) Tryz.underlying39 rfl (by kernel_rfl)) rfl ?_
  exact F25.out.done rfl
set_option maxRecDepth 100000 in
set_option maxHeartbeats 8000000 in
theorem select_110 (N B n : Nat) (hn : n ≤ 900000) (self : St → Ex × St) (hself : ReadsX N B n 35 self) (hle : Le self) (t : St) (w : World) (h : RdAt N w B t) (ht : t.rest.length ≤ n) (is : List ItemM) (fs : List FromM) (x1 : Ex) (t1 t2 t3 t4 t5 t6 t7 t8 t9 t10 : St) (gs : List Ex) (x2 : Ex) (os : List OrderM) (k k2 : Nat) (e1 : itemsP self t = (is, t1)) (e2 : tablesP self (t1.need wFrom) = (fs, t2)) (e3 : condP self wWhere t2 = (x1, t3)) (e4 : phraseP wGroup wBy t3 = (true, t4)) (e5 : listP self t4 = (gs, t5)) (e6 : condP self wHaving t5 = (x2, t6)) (e7 : phraseP wOrder wBy t6 = (true, t7)) (e8 : listP (orderP self) t7 = (os, t8)) (hb : t8.has wLimit = false) :
    Calls Tryz.prog 55 #[.pointer (some ⟨B, 0, none⟩)] w (GivesS N B (⟨7, [], [], [], [], [], is, fs, x1, gs, x2, os, -1, 0⟩, t8) w) := by
  have hmf : ∀ (fn : Fn) (first cap : Array Value) (w : World), (Instr.makeFunc fn first cap).run Tryz.prog w = .ok (.func fn first cap) w := fun _ _ _ _ => rfl
  have F0 : Hid (Fz N B w.heap.size 39 (s00 0 z0 z0 nS nS nS nS nS nS nS 0 0) w (w.alloc (.cells (s00 0 z0 z0 nS nS nS nS nS nS nS 0 0) 39)) t) := Lib.hid (Fz.start 39 (s00 0 z0 z0 nS nS nS nS nS nS nS 0 0) h)
  have hI := fun w h => items_tr N B n hn self hself hle t w h ht
  unfold GivesL at hI; rw [e1] at hI; dsimp only at hI
  have HL1 : Hid (t1.rest.length ≤ n) := Lib.hid (by have a := itemsP_le hle t; rw [e1] at a; dsimp only at a; skip; omega)
  have hT := fun w h => tables_tr N B n hn self hself hle (t1.need wFrom) w h (by have b := St.need_le t1 wFrom; have c := HL1.out; omega)
  unfold GivesL at hT; rw [e2] at hT; dsimp only at hT
  have HL2 : Hid (t2.rest.length ≤ n) := Lib.hid (by have a := tablesP_le hle (t1.need wFrom); rw [e2] at a; dsimp only at a; have b := St.need_le t1 wFrom; have c := HL1.out; omega)
  have hW := fun w h => condition_tr N B n self hself ⟨#[119, 104, 101, 114, 101]⟩ (by decide) t2 w h HL2.out
  rw [show condP self (⟨#[119, 104, 101, 114, 101]⟩ : ByteArray).data.toList t2 = condP self wWhere t2 from rfl] at hW
  unfold GivesX at hW; rw [e3] at hW; dsimp only at hW
  have HL3 : Hid (t3.rest.length ≤ n) := Lib.hid (by have a := condP_le hle wWhere t2; rw [e3] at a; dsimp only at a; have c := HL2.out; omega)
  have hG := fun w h => phrase_tr N B ⟨#[103, 114, 111, 117, 112]⟩ ⟨#[98, 121]⟩ (by decide) (by decide) t3 w h
  rw [show phraseP (⟨#[103, 114, 111, 117, 112]⟩ : ByteArray).data.toList (⟨#[98, 121]⟩ : ByteArray).data.toList t3 = phraseP wGroup wBy t3 from rfl, e4] at hG; dsimp only at hG
  have HL4 : Hid (t4.rest.length ≤ n) := Lib.hid (by have a := phraseP_le wGroup wBy t3; rw [e4] at a; dsimp only at a; have c := HL3.out; omega)
  have hL := fun w h => listEx_tr N B n 35 hn (fun _ _ => by kernel_rfl) self hself.row hle t4 w h HL4.out
  unfold GivesL at hL; rw [e5] at hL; dsimp only at hL
  have HL5 : Hid (t5.rest.length ≤ n) := Lib.hid (by have a := listP_le hle t4; rw [e5] at a; dsimp only at a; have c := HL4.out; omega)
  have hH := fun w h => condition_tr N B n self hself ⟨#[104, 97, 118, 105, 110, 103]⟩ (by decide) t5 w h HL5.out
  rw [show condP self (⟨#[104, 97, 118, 105, 110, 103]⟩ : ByteArray).data.toList t5 = condP self wHaving t5 from rfl] at hH
  unfold GivesX at hH; rw [e6] at hH; dsimp only at hH
  have HL6 : Hid (t6.rest.length ≤ n) := Lib.hid (by have a := condP_le hle wHaving t5; rw [e6] at a; dsimp only at a; have c := HL5.out; omega)
  have hO := fun w h => phrase_tr N B ⟨#[111, 114, 100, 101, 114]⟩ ⟨#[98, 121]⟩ (by decide) (by decide) t6 w h
  rw [show phraseP (⟨#[111, 114, 100, 101, 114]⟩ : ByteArray).data.toList (⟨#[98, 121]⟩ : ByteArray).data.toList t6 = phraseP wOrder wBy t6 from rfl, e7] at hO; dsimp only at hO
  have HL7 : Hid (t7.rest.length ≤ n) := Lib.hid (by have a := phraseP_le wOrder wBy t6; rw [e7] at a; dsimp only at a; have c := HL6.out; omega)
  have hD := fun w h => listOrder_tr N B n 101 hn (fun _ _ => by kernel_rfl) (orderP self) (order_tr N B n self hself hle) (orderP_le hle) t7 w h HL7.out
  unfold GivesL at hD; rw [e8] at hD; dsimp only at hD
  clear h e1 e2 e3 e4 e7 e5 e6 e8
  go_enter Tryz.func55, Tryz.ntmps55
  obtain ⟨w1, hw1⟩ : ∃ w1, w1 = ((w.alloc (.cells (s00 0 z0 z0 nS nS nS nS nS nS nS 0 0) 39)).alloc (.cells (s00 0 z0 z0 nS nS nS nS nS nS nS 0 0) 39)).setRow (w.heap.size + 1) (s00 7 z0 z0 nS nS nS nS nS nS nS ((-1)) 0) := ⟨_, rfl⟩
  have F1 : Hid (Fs N B w.heap.size (w.heap.size + 1) (s00 7 z0 z0 nS nS nS nS nS nS nS ((-1)) 0) w w1 (t) ⟨7, [], [], [], [], [], [], [], noE, [], noE, [], -1, 0⟩ nS nS nS nS nS nS nS nS nS) := Lib.hid (by rw [hw1]; exact Fs.begin F0.out (s00 7 z0 z0 nS nS nS nS nS nS nS ((-1)) 0) _ rfl)
  have ZX : Hid (((w.alloc (.cells (s00 0 z0 z0 nS nS nS nS nS nS nS 0 0) 39)).alloc (.cells (s00 0 z0 z0 nS nS nS nS nS nS nS 0 0) 39)).heap[w.heap.size + 1]? = some (.cells (s00 0 z0 z0 nS nS nS nS nS nS nS 0 0) 39 (0, 0))) := Lib.hid Fs.begin0
  go_wp2_with (first
    | (refine wpList_store_row rfl 39 _ _ rfl (w.heap.size + 1) (s00 7 z0 z0 nS nS nS nS nS nS nS ((-1)) 0) rfl rfl _ _ ZX.out (by kernel_rfl) rfl (by simp [Value.oneCell']) ?_; rw [← hw1]; clear hw1))
  refine (hI _ F1.out.z.rd).mono ?_
  rintro e w2 ⟨v1, rfl, hrow, hr, hq⟩
  obtain ⟨a1, b1, hv, _⟩ := hrow.slice
  subst hv
  have F2 := Lib.hid (F1.out.call hr hq)
  have Q2 := Lib.hid (F1.out.gotL hrow)
  clear hrow hr hq
  have F3 : Hid (Fs N B w.heap.size (w.heap.size + 1) (s00 7 z0 z0 nS nS nS nS nS nS nS ((-1)) 0) w w2 (t1) ⟨7, [], [], [], [], [], is, [], noE, [], noE, [], -1, 0⟩ nS nS nS (.slice a1 (is).length b1) nS nS nS nS nS) := Lib.hid (F2.out.items Q2.out)
  have c2 : w2.cell? ⟨(w.heap.size + 1), 6, none⟩ = some nS := bk_cell F3.out.blk 6
  have z2 : w2.frozen? ⟨(w.heap.size + 1), 6, none⟩ = false := bk_free F3.out.blk 6
  have HS2 : Hid ((w2.setCell ⟨(w.heap.size + 1), 6, none⟩ (.slice a1 (is).length b1)) = w2.setRow (w.heap.size + 1) (s00 7 z0 z0 nS nS nS (.slice a1 (is).length b1) nS nS nS ((-1)) 0)) := Lib.hid ((setCell_eq_setRow w2 (w.heap.size + 1) 6 _ _ _ (.slice a1 (is).length b1) F3.out.blk).trans (congrArg (w2.setRow (w.heap.size + 1)) rfl))
  have F4 : Hid (Fs N B w.heap.size (w.heap.size + 1) (s00 7 z0 z0 nS nS nS (.slice a1 (is).length b1) nS nS nS ((-1)) 0) w (w2.setCell ⟨(w.heap.size + 1), 6, none⟩ (.slice a1 (is).length b1)) (t1) ⟨7, [], [], [], [], [], is, [], noE, [], noE, [], -1, 0⟩ nS nS nS (.slice a1 (is).length b1) nS nS nS nS nS) := Lib.hid (by rw [HS2.out]; exact F3.out.set _)
  go_wp2_with fail
  refine (need_any N B t1 ⟨#[102, 114, 111, 109]⟩ _ F4.out.z.rd (by decide)).mono ?_
  rintro e w5 ⟨rfl, hr, hq⟩
  have F5 := Lib.hid (F4.out.call hr hq)
  clear hr hq
  go_wp2_with fail
  refine (hT _ F5.out.z.rd).mono ?_
  rintro e w6 ⟨v5, rfl, hrow, hr, hq⟩
  obtain ⟨a5, b5, hv, _⟩ := hrow.slice
  subst hv
  have F6 := Lib.hid (F5.out.call hr hq)
  have Q6 := Lib.hid (F5.out.gotL hrow)
  clear hrow hr hq
  have F7 : Hid (Fs N B w.heap.size (w.heap.size + 1) (s00 7 z0 z0 nS nS nS (.slice a1 (is).length b1) nS nS nS ((-1)) 0) w w6 (t2) ⟨7, [], [], [], [], [], is, fs, noE, [], noE, [], -1, 0⟩ nS nS nS (.slice a1 (is).length b1) (.slice a5 (fs).length b5) nS nS nS nS) := Lib.hid (F6.out.tables Q6.out)
  have c6 : w6.cell? ⟨(w.heap.size + 1), 7, none⟩ = some nS := bk_cell F7.out.blk 7
  have z6 : w6.frozen? ⟨(w.heap.size + 1), 7, none⟩ = false := bk_free F7.out.blk 7
  have HS6 : Hid ((w6.setCell ⟨(w.heap.size + 1), 7, none⟩ (.slice a5 (fs).length b5)) = w6.setRow (w.heap.size + 1) (s00 7 z0 z0 nS nS nS (.slice a1 (is).length b1) (.slice a5 (fs).length b5) nS nS ((-1)) 0)) := Lib.hid ((setCell_eq_setRow w6 (w.heap.size + 1) 7 _ _ _ (.slice a5 (fs).length b5) F7.out.blk).trans (congrArg (w6.setRow (w.heap.size + 1)) rfl))
  have F8 : Hid (Fs N B w.heap.size (w.heap.size + 1) (s00 7 z0 z0 nS nS nS (.slice a1 (is).length b1) (.slice a5 (fs).length b5) nS nS ((-1)) 0) w (w6.setCell ⟨(w.heap.size + 1), 7, none⟩ (.slice a5 (fs).length b5)) (t2) ⟨7, [], [], [], [], [], is, fs, noE, [], noE, [], -1, 0⟩ nS nS nS (.slice a1 (is).length b1) (.slice a5 (fs).length b5) nS nS nS nS) := Lib.hid (by rw [HS6.out]; exact F7.out.set _)
  go_wp2_with fail
  refine (hW _ F8.out.z.rd).mono ?_
  rintro e w9 ⟨v8, rfl, hs, hr, hq⟩
  obtain ⟨a8, n8, b8, hu⟩ := hs.slice
  subst hu
  have F9 : Hid (Fs N B w.heap.size (w.heap.size + 1) (s00 7 z0 z0 nS nS nS (.slice a1 (is).length b1) (.slice a5 (fs).length b5) nS nS ((-1)) 0) w w9 (t3) ⟨7, [], [], [], [], [], is, fs, x1, [], noE, [], -1, 0⟩ nS nS nS (.slice a1 (is).length b1) (.slice a5 (fs).length b5) (.slice a8 n8 b8) nS nS nS) := Lib.hid ((F8.out.call hr hq).cond (e := x1) (F8.out.gotX hs))
  obtain ⟨w10, hw10⟩ : ∃ w10, w10 = w9.setRow (w.heap.size + 1) (s10 7 z0 z0 nS nS nS (.slice a1 (is).length b1) (.slice a5 (fs).length b5) x1.a (.slice a8 n8 b8) nS nS ((-1)) 0) := ⟨_, rfl⟩
  have F10 : Hid (Fs N B w.heap.size (w.heap.size + 1) (s10 7 z0 z0 nS nS nS (.slice a1 (is).length b1) (.slice a5 (fs).length b5) x1.a (.slice a8 n8 b8) nS nS ((-1)) 0) w w10 (t3) ⟨7, [], [], [], [], [], is, fs, x1, [], noE, [], -1, 0⟩ nS nS nS (.slice a1 (is).length b1) (.slice a5 (fs).length b5) (.slice a8 n8 b8) nS nS nS) := Lib.hid (by rw [hw10]; exact F9.out.set _)
  clear hs hr hq
  unfold exVal
  go_wp2_with (first
    | (refine wpList_store_field rfl 36 _ _ rfl (w.heap.size + 1) 8 (eA x1.a (.slice a8 n8 b8)) rfl rfl _ _ F9.out.blk (by kernel_rfl) (by simp [Value.oneCell']) (by simp) (s10 7 z0 z0 nS nS nS (.slice a1 (is).length b1) (.slice a5 (fs).length b5) x1.a (.slice a8 n8 b8) nS nS ((-1)) 0) rfl ?_; rw [← hw10]; clear hw10))
  refine (hG _ F10.out.z.rd).mono ?_
  rintro e w11 ⟨rfl, hr, hq⟩
  have F11 := Lib.hid (F10.out.call hr hq)
  clear hr hq
  go_wp2_with fail
  refine (hL _ F11.out.z.rd).mono ?_
  rintro e w12 ⟨v11, rfl, hrow, hr, hq⟩
  obtain ⟨a11, b11, hv, _⟩ := hrow.slice
  subst hv
  have F12 := Lib.hid (F11.out.call hr hq)
  have Q12 := Lib.hid (F11.out.gotL hrow)
  clear hrow hr hq
  have F13 : Hid (Fs N B w.heap.size (w.heap.size + 1) (s10 7 z0 z0 nS nS nS (.slice a1 (is).length b1) (.slice a5 (fs).length b5) x1.a (.slice a8 n8 b8) nS nS ((-1)) 0) w w12 (t5) ⟨7, [], [], [], [], [], is, fs, x1, gs, noE, [], -1, 0⟩ nS nS nS (.slice a1 (is).length b1) (.slice a5 (fs).length b5) (.slice a8 n8 b8) (.slice a11 (gs).length b11) nS nS) := Lib.hid (F12.out.group Q12.out)
  have c12 : w12.cell? ⟨(w.heap.size + 1), 17, none⟩ = some nS := bk_cell F13.out.blk 17
  have z12 : w12.frozen? ⟨(w.heap.size + 1), 17, none⟩ = false := bk_free F13.out.blk 17
  have HS12 : Hid ((w12.setCell ⟨(w.heap.size + 1), 17, none⟩ (.slice a11 (gs).length b11)) = w12.setRow (w.heap.size + 1) (s10 7 z0 z0 nS nS nS (.slice a1 (is).length b1) (.slice a5 (fs).length b5) x1.a (.slice a8 n8 b8) (.slice a11 (gs).length b11) nS ((-1)) 0)) := Lib.hid ((setCell_eq_setRow w12 (w.heap.size + 1) 17 _ _ _ (.slice a11 (gs).length b11) F13.out.blk).trans (congrArg (w12.setRow (w.heap.size + 1)) rfl))
  have F14 : Hid (Fs N B w.heap.size (w.heap.size + 1) (s10 7 z0 z0 nS nS nS (.slice a1 (is).length b1) (.slice a5 (fs).length b5) x1.a (.slice a8 n8 b8) (.slice a11 (gs).length b11) nS ((-1)) 0) w (w12.setCell ⟨(w.heap.size + 1), 17, none⟩ (.slice a11 (gs).length b11)) (t5) ⟨7, [], [], [], [], [], is, fs, x1, gs, noE, [], -1, 0⟩ nS nS nS (.slice a1 (is).length b1) (.slice a5 (fs).length b5) (.slice a8 n8 b8) (.slice a11 (gs).length b11) nS nS) := Lib.hid (by rw [HS12.out]; exact F13.out.set _)
  go_wp2_with fail
  refine (hH _ F14.out.z.rd).mono ?_
  rintro e w15 ⟨v14, rfl, hs, hr, hq⟩
  obtain ⟨a14, n14, b14, hu⟩ := hs.slice
  subst hu
  have F15 : Hid (Fs N B w.heap.size (w.heap.size + 1) (s10 7 z0 z0 nS nS nS (.slice a1 (is).length b1) (.slice a5 (fs).length b5) x1.a (.slice a8 n8 b8) (.slice a11 (gs).length b11) nS ((-1)) 0) w w15 (t6) ⟨7, [], [], [], [], [], is, fs, x1, gs, x2, [], -1, 0⟩ nS nS nS (.slice a1 (is).length b1) (.slice a5 (fs).length b5) (.slice a8 n8 b8) (.slice a11 (gs).length b11) (.slice a14 n14 b14) nS) := Lib.hid ((F14.out.call hr hq).having_ (e := x2) (F14.out.gotX hs))
  obtain ⟨w16, hw16⟩ : ∃ w16, w16 = w15.setRow (w.heap.size + 1) (s11 7 z0 z0 nS nS nS (.slice a1 (is).length b1) (.slice a5 (fs).length b5) x1.a (.slice a8 n8 b8) (.slice a11 (gs).length b11) x2.a (.slice a14 n14 b14) nS ((-1)) 0) := ⟨_, rfl⟩
  have F16 : Hid (Fs N B w.heap.size (w.heap.size + 1) (s11 7 z0 z0 nS nS nS (.slice a1 (is).length b1) (.slice a5 (fs).length b5) x1.a (.slice a8 n8 b8) (.slice a11 (gs).length b11) x2.a (.slice a14 n14 b14) nS ((-1)) 0) w w16 (t6) ⟨7, [], [], [], [], [], is, fs, x1, gs, x2, [], -1, 0⟩ nS nS nS (.slice a1 (is).length b1) (.slice a5 (fs).length b5) (.slice a8 n8 b8) (.slice a11 (gs).length b11) (.slice a14 n14 b14) nS) := Lib.hid (by rw [hw16]; exact F15.out.set _)
  clear hs hr hq
  unfold exVal
  go_wp2_with (first
    | (refine wpList_store_field rfl 36 _ _ rfl (w.heap.size + 1) 18 (eA x2.a (.slice a14 n14 b14)) rfl rfl _ _ F15.out.blk (by kernel_rfl) (by simp [Value.oneCell']) (by simp) (s11 7 z0 z0 nS nS nS (.slice a1 (is).length b1) (.slice a5 (fs).length b5) x1.a (.slice a8 n8 b8) (.slice a11 (gs).length b11) x2.a (.slice a14 n14 b14) nS ((-1)) 0) rfl ?_; rw [← hw16]; clear hw16))
  refine (hO _ F16.out.z.rd).mono ?_
  rintro e w17 ⟨rfl, hr, hq⟩
  have F17 := Lib.hid (F16.out.call hr hq)
  clear hr hq
  go_wp2_with fail
  refine (hD _ F17.out.z.rd).mono ?_
  rintro e w18 ⟨v17, rfl, hrow, hr, hq⟩
  obtain ⟨a17, b17, hv, _⟩ := hrow.slice
  subst hv
  have F18 := Lib.hid (F17.out.call hr hq)
  have Q18 := Lib.hid (F17.out.gotL hrow)
  clear hrow hr hq
  have F19 : Hid (Fs N B w.heap.size (w.heap.size + 1) (s11 7 z0 z0 nS nS nS (.slice a1 (is).length b1) (.slice a5 (fs).length b5) x1.a (.slice a8 n8 b8) (.slice a11 (gs).length b11) x2.a (.slice a14 n14 b14) nS ((-1)) 0) w w18 (t8) ⟨7, [], [], [], [], [], is, fs, x1, gs, x2, os, -1, 0⟩ nS nS nS (.slice a1 (is).length b1) (.slice a5 (fs).length b5) (.slice a8 n8 b8) (.slice a11 (gs).length b11) (.slice a14 n14 b14) (.slice a17 (os).length b17)) := Lib.hid (F18.out.order Q18.out)
  have c18 : w18.cell? ⟨(w.heap.size + 1), 27, none⟩ = some nS := bk_cell F19.out.blk 27
  have z18 : w18.frozen? ⟨(w.heap.size + 1), 27, none⟩ = false := bk_free F19.out.blk 27
  have HS18 : Hid ((w18.setCell ⟨(w.heap.size + 1), 27, none⟩ (.slice a17 (os).length b17)) = w18.setRow (w.heap.size + 1) (s11 7 z0 z0 nS nS nS (.slice a1 (is).length b1) (.slice a5 (fs).length b5) x1.a (.slice a8 n8 b8) (.slice a11 (gs).length b11) x2.a (.slice a14 n14 b14) (.slice a17 (os).length b17) ((-1)) 0)) := Lib.hid ((setCell_eq_setRow w18 (w.heap.size + 1) 27 _ _ _ (.slice a17 (os).length b17) F19.out.blk).trans (congrArg (w18.setRow (w.heap.size + 1)) rfl))
  have F20 : Hid (Fs N B w.heap.size (w.heap.size + 1) (s11 7 z0 z0 nS nS nS (.slice a1 (is).length b1) (.slice a5 (fs).length b5) x1.a (.slice a8 n8 b8) (.slice a11 (gs).length b11) x2.a (.slice a14 n14 b14) (.slice a17 (os).length b17) ((-1)) 0) w (w18.setCell ⟨(w.heap.size + 1), 27, none⟩ (.slice a17 (os).length b17)) (t8) ⟨7, [], [], [], [], [], is, fs, x1, gs, x2, os, -1, 0⟩ nS nS nS (.slice a1 (is).length b1) (.slice a5 (fs).length b5) (.slice a8 n8 b8) (.slice a11 (gs).length b11) (.slice a14 n14 b14) (.slice a17 (os).length b17)) := Lib.hid (by rw [HS18.out]; exact F19.out.set _)
  go_wp2_with fail
  refine (take_no N B t8 ⟨#[108, 105, 109, 105, 116]⟩ _ F20.out.z.rd hb).mono ?_
  rintro e w21 ⟨rfl, hr, hb20⟩
  have F21 := Lib.hid (F20.out.new hb20)
  clear hr hb20
  go_wp2_with (first
    | (refine wpList_load_row rfl 39 _ rfl (w.heap.size + 1) rfl _ (s11 7 z0 z0 nS nS nS (.slice a1 (is).length b1) (.slice a5 (fs).length b5) x1.a (.slice a8 n8 b8) (.slice a11 (gs).length b11) x2.a (.slice a14 n14 b14) (.slice a17 (os).length b17) ((-1)) 0) (0, 0) _ F21.out.blk Tryz.underlying39 rfl (by kernel_rfl) ?_)
    | (refine wpList_store_row rfl 39 _ _ rfl w.heap.size (s11 7 z0 z0 nS nS nS (.slice a1 (is).length b1) (.slice a5 (fs).length b5) x1.a (.slice a8 n8 b8) (.slice a11 (gs).length b11) x2.a (.slice a14 n14 b14) (.slice a17 (os).length b17) ((-1)) 0) rfl rfl _ _ F21.out.z.res (by kernel_rfl) rfl (by simp [Value.oneCell']) ?_))
  refine bodyPost_ret (results_cell_row Tryz.results55 _ _ w.heap.size 39 (s11 7 z0 z0 nS nS nS (.slice a1 (is).length b1) (.slice a5 (fs).length b5) x1.a (.slice a8 n8 b8) (.slice a11 (gs).length b11) x2.a (.slice a14 n14 b14) (.slice a17 (os).length b17) ((-1)) 0) (0, 0) _ rfl (setRow_heap _ _ _ _ _ _ F21.out.z.res) Tryz.underlying39 rfl (by kernel_rfl)) rfl ?_
  exact F21.out.done rfl
set_option maxRecDepth 100000 in
set_option maxHeartbeats 8000000 in
theorem select_111 (N B n : Nat) (hn : n ≤ 900000) (self : St → Ex × St) (hself : ReadsX N B n 35 self) (hle : Le self) (t : St) (w : World) (h : RdAt N w B t) (ht : t.rest.length ≤ n) (is : List ItemM) (fs : List FromM) (x1 : Ex) (t1 t2 t3 t4 t5 t6 t7 t8 t9 t10 : St) (gs : List Ex) (x2 : Ex) (os : List OrderM) (k k2 : Nat) (e1 : itemsP self t = (is, t1)) (e2 : tablesP self (t1.need wFrom) = (fs, t2)) (e3 : condP self wWhere t2 = (x1, t3)) (e4 : phraseP wGroup wBy t3 = (true, t4)) (e5 : listP self t4 = (gs, t5)) (e6 : condP self wHaving t5 = (x2, t6)) (e7 : phraseP wOrder wBy t6 = (true, t7)) (e8 : listP (orderP self) t7 = (os, t8)) (hb : t8.has wLimit = true) (e9 : numberP t8.step = (k, t9)) (hc : t9.has wOffset = false) :
    Calls Tryz.prog 55 #[.pointer (some ⟨B, 0, none⟩)] w (GivesS N B (⟨7, [], [], [], [], [], is, fs, x1, gs, x2, os, (k : Int), 0⟩, t9) w) := by
  have hmf : ∀ (fn : Fn) (first cap : Array Value) (w : World), (Instr.makeFunc fn first cap).run Tryz.prog w = .ok (.func fn first cap) w := fun _ _ _ _ => rfl
  have F0 : Hid (Fz N B w.heap.size 39 (s00 0 z0 z0 nS nS nS nS nS nS nS 0 0) w (w.alloc (.cells (s00 0 z0 z0 nS nS nS nS nS nS nS 0 0) 39)) t) := Lib.hid (Fz.start 39 (s00 0 z0 z0 nS nS nS nS nS nS nS 0 0) h)
  have hI := fun w h => items_tr N B n hn self hself hle t w h ht
  unfold GivesL at hI; rw [e1] at hI; dsimp only at hI
  have HL1 : Hid (t1.rest.length ≤ n) := Lib.hid (by have a := itemsP_le hle t; rw [e1] at a; dsimp only at a; skip; omega)
  have hT := fun w h => tables_tr N B n hn self hself hle (t1.need wFrom) w h (by have b := St.need_le t1 wFrom; have c := HL1.out; omega)
  unfold GivesL at hT; rw [e2] at hT; dsimp only at hT
  have HL2 : Hid (t2.rest.length ≤ n) := Lib.hid (by have a := tablesP_le hle (t1.need wFrom); rw [e2] at a; dsimp only at a; have b := St.need_le t1 wFrom; have c := HL1.out; omega)
  have hW := fun w h => condition_tr N B n self hself ⟨#[119, 104, 101, 114, 101]⟩ (by decide) t2 w h HL2.out
  rw [show condP self (⟨#[119, 104, 101, 114, 101]⟩ : ByteArray).data.toList t2 = condP self wWhere t2 from rfl] at hW
  unfold GivesX at hW; rw [e3] at hW; dsimp only at hW
  have HL3 : Hid (t3.rest.length ≤ n) := Lib.hid (by have a := condP_le hle wWhere t2; rw [e3] at a; dsimp only at a; have c := HL2.out; omega)
  have hG := fun w h => phrase_tr N B ⟨#[103, 114, 111, 117, 112]⟩ ⟨#[98, 121]⟩ (by decide) (by decide) t3 w h
  rw [show phraseP (⟨#[103, 114, 111, 117, 112]⟩ : ByteArray).data.toList (⟨#[98, 121]⟩ : ByteArray).data.toList t3 = phraseP wGroup wBy t3 from rfl, e4] at hG; dsimp only at hG
  have HL4 : Hid (t4.rest.length ≤ n) := Lib.hid (by have a := phraseP_le wGroup wBy t3; rw [e4] at a; dsimp only at a; have c := HL3.out; omega)
  have hL := fun w h => listEx_tr N B n 35 hn (fun _ _ => by kernel_rfl) self hself.row hle t4 w h HL4.out
  unfold GivesL at hL; rw [e5] at hL; dsimp only at hL
  have HL5 : Hid (t5.rest.length ≤ n) := Lib.hid (by have a := listP_le hle t4; rw [e5] at a; dsimp only at a; have c := HL4.out; omega)
  have hH := fun w h => condition_tr N B n self hself ⟨#[104, 97, 118, 105, 110, 103]⟩ (by decide) t5 w h HL5.out
  rw [show condP self (⟨#[104, 97, 118, 105, 110, 103]⟩ : ByteArray).data.toList t5 = condP self wHaving t5 from rfl] at hH
  unfold GivesX at hH; rw [e6] at hH; dsimp only at hH
  have HL6 : Hid (t6.rest.length ≤ n) := Lib.hid (by have a := condP_le hle wHaving t5; rw [e6] at a; dsimp only at a; have c := HL5.out; omega)
  have hO := fun w h => phrase_tr N B ⟨#[111, 114, 100, 101, 114]⟩ ⟨#[98, 121]⟩ (by decide) (by decide) t6 w h
  rw [show phraseP (⟨#[111, 114, 100, 101, 114]⟩ : ByteArray).data.toList (⟨#[98, 121]⟩ : ByteArray).data.toList t6 = phraseP wOrder wBy t6 from rfl, e7] at hO; dsimp only at hO
  have HL7 : Hid (t7.rest.length ≤ n) := Lib.hid (by have a := phraseP_le wOrder wBy t6; rw [e7] at a; dsimp only at a; have c := HL6.out; omega)
  have hD := fun w h => listOrder_tr N B n 101 hn (fun _ _ => by kernel_rfl) (orderP self) (order_tr N B n self hself hle) (orderP_le hle) t7 w h HL7.out
  unfold GivesL at hD; rw [e8] at hD; dsimp only at hD
  have hK := fun w h => number_tr N B t8.step w h
  rw [e9] at hK; dsimp only at hK
  clear h e1 e2 e3 e4 e7 e5 e6 e8 e9
  go_enter Tryz.func55, Tryz.ntmps55
  obtain ⟨w1, hw1⟩ : ∃ w1, w1 = ((w.alloc (.cells (s00 0 z0 z0 nS nS nS nS nS nS nS 0 0) 39)).alloc (.cells (s00 0 z0 z0 nS nS nS nS nS nS nS 0 0) 39)).setRow (w.heap.size + 1) (s00 7 z0 z0 nS nS nS nS nS nS nS ((-1)) 0) := ⟨_, rfl⟩
  have F1 : Hid (Fs N B w.heap.size (w.heap.size + 1) (s00 7 z0 z0 nS nS nS nS nS nS nS ((-1)) 0) w w1 (t) ⟨7, [], [], [], [], [], [], [], noE, [], noE, [], -1, 0⟩ nS nS nS nS nS nS nS nS nS) := Lib.hid (by rw [hw1]; exact Fs.begin F0.out (s00 7 z0 z0 nS nS nS nS nS nS nS ((-1)) 0) _ rfl)
  have ZX : Hid (((w.alloc (.cells (s00 0 z0 z0 nS nS nS nS nS nS nS 0 0) 39)).alloc (.cells (s00 0 z0 z0 nS nS nS nS nS nS nS 0 0) 39)).heap[w.heap.size + 1]? = some (.cells (s00 0 z0 z0 nS nS nS nS nS nS nS 0 0) 39 (0, 0))) := Lib.hid Fs.begin0
  go_wp2_with (first
    | (refine wpList_store_row rfl 39 _ _ rfl (w.heap.size + 1) (s00 7 z0 z0 nS nS nS nS nS nS nS ((-1)) 0) rfl rfl _ _ ZX.out (by kernel_rfl) rfl (by simp [Value.oneCell']) ?_; rw [← hw1]; clear hw1))
  refine (hI _ F1.out.z.rd).mono ?_
  rintro e w2 ⟨v1, rfl, hrow, hr, hq⟩
  obtain ⟨a1, b1, hv, _⟩ := hrow.slice
  subst hv
  have F2 := Lib.hid (F1.out.call hr hq)
  have Q2 := Lib.hid (F1.out.gotL hrow)
  clear hrow hr hq
  have F3 : Hid (Fs N B w.heap.size (w.heap.size + 1) (s00 7 z0 z0 nS nS nS nS nS nS nS ((-1)) 0) w w2 (t1) ⟨7, [], [], [], [], [], is, [], noE, [], noE, [], -1, 0⟩ nS nS nS (.slice a1 (is).length b1) nS nS nS nS nS) := Lib.hid (F2.out.items Q2.out)
  have c2 : w2.cell? ⟨(w.heap.size + 1), 6, none⟩ = some nS := bk_cell F3.out.blk 6
  have z2 : w2.frozen? ⟨(w.heap.size + 1), 6, none⟩ = false := bk_free F3.out.blk 6
  have HS2 : Hid ((w2.setCell ⟨(w.heap.size + 1), 6, none⟩ (.slice a1 (is).length b1)) = w2.setRow (w.heap.size + 1) (s00 7 z0 z0 nS nS nS (.slice a1 (is).length b1) nS nS nS ((-1)) 0)) := Lib.hid ((setCell_eq_setRow w2 (w.heap.size + 1) 6 _ _ _ (.slice a1 (is).length b1) F3.out.blk).trans (congrArg (w2.setRow (w.heap.size + 1)) rfl))
  have F4 : Hid (Fs N B w.heap.size (w.heap.size + 1) (s00 7 z0 z0 nS nS nS (.slice a1 (is).length b1) nS nS nS ((-1)) 0) w (w2.setCell ⟨(w.heap.size + 1), 6, none⟩ (.slice a1 (is).length b1)) (t1) ⟨7, [], [], [], [], [], is, [], noE, [], noE, [], -1, 0⟩ nS nS nS (.slice a1 (is).length b1) nS nS nS nS nS) := Lib.hid (by rw [HS2.out]; exact F3.out.set _)
  go_wp2_with fail
  refine (need_any N B t1 ⟨#[102, 114, 111, 109]⟩ _ F4.out.z.rd (by decide)).mono ?_
  rintro e w5 ⟨rfl, hr, hq⟩
  have F5 := Lib.hid (F4.out.call hr hq)
  clear hr hq
  go_wp2_with fail
  refine (hT _ F5.out.z.rd).mono ?_
  rintro e w6 ⟨v5, rfl, hrow, hr, hq⟩
  obtain ⟨a5, b5, hv, _⟩ := hrow.slice
  subst hv
  have F6 := Lib.hid (F5.out.call hr hq)
  have Q6 := Lib.hid (F5.out.gotL hrow)
  clear hrow hr hq
  have F7 : Hid (Fs N B w.heap.size (w.heap.size + 1) (s00 7 z0 z0 nS nS nS (.slice a1 (is).length b1) nS nS nS ((-1)) 0) w w6 (t2) ⟨7, [], [], [], [], [], is, fs, noE, [], noE, [], -1, 0⟩ nS nS nS (.slice a1 (is).length b1) (.slice a5 (fs).length b5) nS nS nS nS) := Lib.hid (F6.out.tables Q6.out)
  have c6 : w6.cell? ⟨(w.heap.size + 1), 7, none⟩ = some nS := bk_cell F7.out.blk 7
  have z6 : w6.frozen? ⟨(w.heap.size + 1), 7, none⟩ = false := bk_free F7.out.blk 7
  have HS6 : Hid ((w6.setCell ⟨(w.heap.size + 1), 7, none⟩ (.slice a5 (fs).length b5)) = w6.setRow (w.heap.size + 1) (s00 7 z0 z0 nS nS nS (.slice a1 (is).length b1) (.slice a5 (fs).length b5) nS nS ((-1)) 0)) := Lib.hid ((setCell_eq_setRow w6 (w.heap.size + 1) 7 _ _ _ (.slice a5 (fs).length b5) F7.out.blk).trans (congrArg (w6.setRow (w.heap.size + 1)) rfl))
  have F8 : Hid (Fs N B w.heap.size (w.heap.size + 1) (s00 7 z0 z0 nS nS nS (.slice a1 (is).length b1) (.slice a5 (fs).length b5) nS nS ((-1)) 0) w (w6.setCell ⟨(w.heap.size + 1), 7, none⟩ (.slice a5 (fs).length b5)) (t2) ⟨7, [], [], [], [], [], is, fs, noE, [], noE, [], -1, 0⟩ nS nS nS (.slice a1 (is).length b1) (.slice a5 (fs).length b5) nS nS nS nS) := Lib.hid (by rw [HS6.out]; exact F7.out.set _)
  go_wp2_with fail
  refine (hW _ F8.out.z.rd).mono ?_
  rintro e w9 ⟨v8, rfl, hs, hr, hq⟩
  obtain ⟨a8, n8, b8, hu⟩ := hs.slice
  subst hu
  have F9 : Hid (Fs N B w.heap.size (w.heap.size + 1) (s00 7 z0 z0 nS nS nS (.slice a1 (is).length b1) (.slice a5 (fs).length b5) nS nS ((-1)) 0) w w9 (t3) ⟨7, [], [], [], [], [], is, fs, x1, [], noE, [], -1, 0⟩ nS nS nS (.slice a1 (is).length b1) (.slice a5 (fs).length b5) (.slice a8 n8 b8) nS nS nS) := Lib.hid ((F8.out.call hr hq).cond (e := x1) (F8.out.gotX hs))
  obtain ⟨w10, hw10⟩ : ∃ w10, w10 = w9.setRow (w.heap.size + 1) (s10 7 z0 z0 nS nS nS (.slice a1 (is).length b1) (.slice a5 (fs).length b5) x1.a (.slice a8 n8 b8) nS nS ((-1)) 0) := ⟨_, rfl⟩
  have F10 : Hid (Fs N B w.heap.size (w.heap.size + 1) (s10 7 z0 z0 nS nS nS (.slice a1 (is).length b1) (.slice a5 (fs).length b5) x1.a (.slice a8 n8 b8) nS nS ((-1)) 0) w w10 (t3) ⟨7, [], [], [], [], [], is, fs, x1, [], noE, [], -1, 0⟩ nS nS nS (.slice a1 (is).length b1) (.slice a5 (fs).length b5) (.slice a8 n8 b8) nS nS nS) := Lib.hid (by rw [hw10]; exact F9.out.set _)
  clear hs hr hq
  unfold exVal
  go_wp2_with (first
    | (refine wpList_store_field rfl 36 _ _ rfl (w.heap.size + 1) 8 (eA x1.a (.slice a8 n8 b8)) rfl rfl _ _ F9.out.blk (by kernel_rfl) (by simp [Value.oneCell']) (by simp) (s10 7 z0 z0 nS nS nS (.slice a1 (is).length b1) (.slice a5 (fs).length b5) x1.a (.slice a8 n8 b8) nS nS ((-1)) 0) rfl ?_; rw [← hw10]; clear hw10))
  refine (hG _ F10.out.z.rd).mono ?_
  rintro e w11 ⟨rfl, hr, hq⟩
  have F11 := Lib.hid (F10.out.call hr hq)
  clear hr hq
  go_wp2_with fail
  refine (hL _ F11.out.z.rd).mono ?_
  rintro e w12 ⟨v11, rfl, hrow, hr, hq⟩
  obtain ⟨a11, b11, hv, _⟩ := hrow.slice
  subst hv
  have F12 := Lib.hid (F11.out.call hr hq)
  have Q12 := Lib.hid (F11.out.gotL hrow)
  clear hrow hr hq
  have F13 : Hid (Fs N B w.heap.size (w.heap.size + 1) (s10 7 z0 z0 nS nS nS (.slice a1 (is).length b1) (.slice a5 (fs).length b5) x1.a (.slice a8 n8 b8) nS nS ((-1)) 0) w w12 (t5) ⟨7, [], [], [], [], [], is, fs, x1, gs, noE, [], -1, 0⟩ nS nS nS (.slice a1 (is).length b1) (.slice a5 (fs).length b5) (.slice a8 n8 b8) (.slice a11 (gs).length b11) nS nS) := Lib.hid (F12.out.group Q12.out)
  have c12 : w12.cell? ⟨(w.heap.size + 1), 17, none⟩ = some nS := bk_cell F13.out.blk 17
  have z12 : w12.frozen? ⟨(w.heap.size + 1), 17, none⟩ = false := bk_free F13.out.blk 17
  have HS12 : Hid ((w12.setCell ⟨(w.heap.size + 1), 17, none⟩ (.slice a11 (gs).length b11)) = w12.setRow (w.heap.size + 1) (s10 7 z0 z0 nS nS nS (.slice a1 (is).length b1) (.slice a5 (fs).length b5) x1.a (.slice a8 n8 b8) (.slice a11 (gs).length b11) nS ((-1)) 0)) := Lib.hid ((setCell_eq_setRow w12 (w.heap.size + 1) 17 _ _ _ (.slice a11 (gs).length b11) F13.out.blk).trans (congrArg (w12.setRow (w.heap.size + 1)) rfl))
  have F14 : Hid (Fs N B w.heap.size (w.heap.size + 1) (s10 7 z0 z0 nS nS nS (.slice a1 (is).length b1) (.slice a5 (fs).length b5) x1.a (.slice a8 n8 b8) (.slice a11 (gs).length b11) nS ((-1)) 0) w (w12.setCell ⟨(w.heap.size + 1), 17, none⟩ (.slice a11 (gs).length b11)) (t5) ⟨7, [], [], [], [], [], is, fs, x1, gs, noE, [], -1, 0⟩ nS nS nS (.slice a1 (is).length b1) (.slice a5 (fs).length b5) (.slice a8 n8 b8) (.slice a11 (gs).length b11) nS nS) := Lib.hid (by rw [HS12.out]; exact F13.out.set _)
  go_wp2_with fail
  refine (hH _ F14.out.z.rd).mono ?_
  rintro e w15 ⟨v14, rfl, hs, hr, hq⟩
  obtain ⟨a14, n14, b14, hu⟩ := hs.slice
  subst hu
  have F15 : Hid (Fs N B w.heap.size (w.heap.size + 1) (s10 7 z0 z0 nS nS nS (.slice a1 (is).length b1) (.slice a5 (fs).length b5) x1.a (.slice a8 n8 b8) (.slice a11 (gs).length b11) nS ((-1)) 0) w w15 (t6) ⟨7, [], [], [], [], [], is, fs, x1, gs, x2, [], -1, 0⟩ nS nS nS (.slice a1 (is).length b1) (.slice a5 (fs).length b5) (.slice a8 n8 b8) (.slice a11 (gs).length b11) (.slice a14 n14 b14) nS) := Lib.hid ((F14.out.call hr hq).having_ (e := x2) (F14.out.gotX hs))
  obtain ⟨w16, hw16⟩ : ∃ w16, w16 = w15.setRow (w.heap.size + 1) (s11 7 z0 z0 nS nS nS (.slice a1 (is).length b1) (.slice a5 (fs).length b5) x1.a (.slice a8 n8 b8) (.slice a11 (gs).length b11) x2.a (.slice a14 n14 b14) nS ((-1)) 0) := ⟨_, rfl⟩
  have F16 : Hid (Fs N B w.heap.size (w.heap.size + 1) (s11 7 z0 z0 nS nS nS (.slice a1 (is).length b1) (.slice a5 (fs).length b5) x1.a (.slice a8 n8 b8) (.slice a11 (gs).length b11) x2.a (.slice a14 n14 b14) nS ((-1)) 0) w w16 (t6) ⟨7, [], [], [], [], [], is, fs, x1, gs, x2, [], -1, 0⟩ nS nS nS (.slice a1 (is).length b1) (.slice a5 (fs).length b5) (.slice a8 n8 b8) (.slice a11 (gs).length b11) (.slice a14 n14 b14) nS) := Lib.hid (by rw [hw16]; exact F15.out.set _)
  clear hs hr hq
  unfold exVal
  go_wp2_with (first
    | (refine wpList_store_field rfl 36 _ _ rfl (w.heap.size + 1) 18 (eA x2.a (.slice a14 n14 b14)) rfl rfl _ _ F15.out.blk (by kernel_rfl) (by simp [Value.oneCell']) (by simp) (s11 7 z0 z0 nS nS nS (.slice a1 (is).length b1) (.slice a5 (fs).length b5) x1.a (.slice a8 n8 b8) (.slice a11 (gs).length b11) x2.a (.slice a14 n14 b14) nS ((-1)) 0) rfl ?_; rw [← hw16]; clear hw16))
  refine (hO _ F16.out.z.rd).mono ?_
  rintro e w17 ⟨rfl, hr, hq⟩
  have F17 := Lib.hid (F16.out.call hr hq)
  clear hr hq
  go_wp2_with fail
  refine (hD _ F17.out.z.rd).mono ?_
  rintro e w18 ⟨v17, rfl, hrow, hr, hq⟩
  obtain ⟨a17, b17, hv, _⟩ := hrow.slice
  subst hv
  have F18 := Lib.hid (F17.out.call hr hq)
  have Q18 := Lib.hid (F17.out.gotL hrow)
  clear hrow hr hq
  have F19 : Hid (Fs N B w.heap.size (w.heap.size + 1) (s11 7 z0 z0 nS nS nS (.slice a1 (is).length b1) (.slice a5 (fs).length b5) x1.a (.slice a8 n8 b8) (.slice a11 (gs).length b11) x2.a (.slice a14 n14 b14) nS ((-1)) 0) w w18 (t8) ⟨7, [], [], [], [], [], is, fs, x1, gs, x2, os, -1, 0⟩ nS nS nS (.slice a1 (is).length b1) (.slice a5 (fs).length b5) (.slice a8 n8 b8) (.slice a11 (gs).length b11) (.slice a14 n14 b14) (.slice a17 (os).length b17)) := Lib.hid (F18.out.order Q18.out)
  have c18 : w18.cell? ⟨(w.heap.size + 1), 27, none⟩ = some nS := bk_cell F19.out.blk 27
  have z18 : w18.frozen? ⟨(w.heap.size + 1), 27, none⟩ = false := bk_free F19.out.blk 27
  have HS18 : Hid ((w18.setCell ⟨(w.heap.size + 1), 27, none⟩ (.slice a17 (os).length b17)) = w18.setRow (w.heap.size + 1) (s11 7 z0 z0 nS nS nS (.slice a1 (is).length b1) (.slice a5 (fs).length b5) x1.a (.slice a8 n8 b8) (.slice a11 (gs).length b11) x2.a (.slice a14 n14 b14) (.slice a17 (os).length b17) ((-1)) 0)) := Lib.hid ((setCell_eq_setRow w18 (w.heap.size + 1) 27 _ _ _ (.slice a17 (os).length b17) F19.out.blk).trans (congrArg (w18.setRow (w.heap.size + 1)) rfl))
  have F20 : Hid (Fs N B w.heap.size (w.heap.size + 1) (s11 7 z0 z0 nS nS nS (.slice a1 (is).length b1) (.slice a5 (fs).length b5) x1.a (.slice a8 n8 b8) (.slice a11 (gs).length b11) x2.a (.slice a14 n14 b14) (.slice a17 (os).length b17) ((-1)) 0) w (w18.setCell ⟨(w.heap.size + 1), 27, none⟩ (.slice a17 (os).length b17)) (t8) ⟨7, [], [], [], [], [], is, fs, x1, gs, x2, os, -1, 0⟩ nS nS nS (.slice a1 (is).length b1) (.slice a5 (fs).length b5) (.slice a8 n8 b8) (.slice a11 (gs).length b11) (.slice a14 n14 b14) (.slice a17 (os).length b17)) := Lib.hid (by rw [HS18.out]; exact F19.out.set _)
  go_wp2_with fail
  refine (take_yes N B t8 ⟨#[108, 105, 109, 105, 116]⟩ _ F20.out.z.rd hb (by decide)).mono ?_
  rintro e w21 ⟨rfl, hr, hq⟩
  have F21 := Lib.hid (F20.out.call hr hq)
  clear hr hq
  go_wp2_with fail
  refine (hK _ F21.out.z.rd).mono ?_
  rintro e w22 ⟨rfl, hr, hq⟩
  have F22 := Lib.hid (F21.out.call hr hq)
  clear hr hq
  have F23 : Hid (Fs N B w.heap.size (w.heap.size + 1) (s11 7 z0 z0 nS nS nS (.slice a1 (is).length b1) (.slice a5 (fs).length b5) x1.a (.slice a8 n8 b8) (.slice a11 (gs).length b11) x2.a (.slice a14 n14 b14) (.slice a17 (os).length b17) ((-1)) 0) w w22 (t9) ⟨7, [], [], [], [], [], is, fs, x1, gs, x2, os, (k : Int), 0⟩ nS nS nS (.slice a1 (is).length b1) (.slice a5 (fs).length b5) (.slice a8 n8 b8) (.slice a11 (gs).length b11) (.slice a14 n14 b14) (.slice a17 (os).length b17)) := Lib.hid (F22.out.limit (k : Int))
  have c22 : w22.cell? ⟨(w.heap.size + 1), 28, none⟩ = some (.int .i64 (-1)) := bk_cell F23.out.blk 28
  have z22 : w22.frozen? ⟨(w.heap.size + 1), 28, none⟩ = false := bk_free F23.out.blk 28
  have HS22 : Hid ((w22.setCell ⟨(w.heap.size + 1), 28, none⟩ (.int .i64 (k : Int))) = w22.setRow (w.heap.size + 1) (s11 7 z0 z0 nS nS nS (.slice a1 (is).length b1) (.slice a5 (fs).length b5) x1.a (.slice a8 n8 b8) (.slice a11 (gs).length b11) x2.a (.slice a14 n14 b14) (.slice a17 (os).length b17) ((k : Int)) 0)) := Lib.hid ((setCell_eq_setRow w22 (w.heap.size + 1) 28 _ _ _ (.int .i64 (k : Int)) F23.out.blk).trans (congrArg (w22.setRow (w.heap.size + 1)) rfl))
  have F24 : Hid (Fs N B w.heap.size (w.heap.size + 1) (s11 7 z0 z0 nS nS nS (.slice a1 (is).length b1) (.slice a5 (fs).length b5) x1.a (.slice a8 n8 b8) (.slice a11 (gs).length b11) x2.a (.slice a14 n14 b14) (.slice a17 (os).length b17) ((k : Int)) 0) w (w22.setCell ⟨(w.heap.size + 1), 28, none⟩ (.int .i64 (k : Int))) (t9) ⟨7, [], [], [], [], [], is, fs, x1, gs, x2, os, (k : Int), 0⟩ nS nS nS (.slice a1 (is).length b1) (.slice a5 (fs).length b5) (.slice a8 n8 b8) (.slice a11 (gs).length b11) (.slice a14 n14 b14) (.slice a17 (os).length b17)) := Lib.hid (by rw [HS22.out]; exact F23.out.set _)
  go_wp2_with fail
  refine (take_no N B t9 ⟨#[111, 102, 102, 115, 101, 116]⟩ _ F24.out.z.rd hc).mono ?_
  rintro e w25 ⟨rfl, hr, hb24⟩
  have F25 := Lib.hid (F24.out.new hb24)
  clear hr hb24
  go_wp2_with (first
    | (refine wpList_load_row rfl 39 _ rfl (w.heap.size + 1) rfl _ (s11 7 z0 z0 nS nS nS (.slice a1 (is).length b1) (.slice a5 (fs).length b5) x1.a (.slice a8 n8 b8) (.slice a11 (gs).length b11) x2.a (.slice a14 n14 b14) (.slice a17 (os).length b17) ((k : Int)) 0) (0, 0) _ F25.out.blk Tryz.underlying39 rfl (by kernel_rfl) ?_)
    | (refine wpList_store_row rfl 39 _ _ rfl w.heap.size (s11 7 z0 z0 nS nS nS (.slice a1 (is).length b1) (.slice a5 (fs).length b5) x1.a (.slice a8 n8 b8) (.slice a11 (gs).length b11) x2.a (.slice a14 n14 b14) (.slice a17 (os).length b17) ((k : Int)) 0) rfl rfl _ _ F25.out.z.res (by kernel_rfl) rfl (by simp [Value.oneCell']) ?_))
  refine bodyPost_ret (results_cell_row Tryz.results55 _ _ w.heap.size 39 (s11 7 z0 z0 nS nS nS (.slice a1 (is).length b1) (.slice a5 (fs).length b5) x1.a (.slice a8 n8 b8) (.slice a11 (gs).length b11) x2.a (.slice a14 n14 b14) (.slice a17 (os).length b17) ((k : Int)) 0) (0, 0) _ rfl (setRow_heap _ _ _ _ _ _ F25.out.z.res) Tryz.underlying39 rfl (by kernel_rfl)) rfl ?_
  exact F25.out.done rfl
set_option maxRecDepth 100000 in
set_option maxHeartbeats 8000000 in
theorem select_112 (N B n : Nat) (hn : n ≤ 900000) (self : St → Ex × St) (hself : ReadsX N B n 35 self) (hle : Le self) (t : St) (w : World) (h : RdAt N w B t) (ht : t.rest.length ≤ n) (is : List ItemM) (fs : List FromM) (x1 : Ex) (t1 t2 t3 t4 t5 t6 t7 t8 t9 t10 : St) (gs : List Ex) (x2 : Ex) (os : List OrderM) (k k2 : Nat) (e1 : itemsP self t = (is, t1)) (e2 : tablesP self (t1.need wFrom) = (fs, t2)) (e3 : condP self wWhere t2 = (x1, t3)) (e4 : phraseP wGroup wBy t3 = (true, t4)) (e5 : listP self t4 = (gs, t5)) (e6 : condP self wHaving t5 = (x2, t6)) (e7 : phraseP wOrder wBy t6 = (true, t7)) (e8 : listP (orderP self) t7 = (os, t8)) (hb : t8.has wLimit = true) (e9 : numberP t8.step = (k, t9)) (hc : t9.has wOffset = true) (e10 : numberP t9.step = (k2, t10)) :
    Calls Tryz.prog 55 #[.pointer (some ⟨B, 0, none⟩)] w (GivesS N B (⟨7, [], [], [], [], [], is, fs, x1, gs, x2, os, (k : Int), (k2 : Int)⟩, t10) w) := by
  have hmf : ∀ (fn : Fn) (first cap : Array Value) (w : World), (Instr.makeFunc fn first cap).run Tryz.prog w = .ok (.func fn first cap) w := fun _ _ _ _ => rfl
  have F0 : Hid (Fz N B w.heap.size 39 (s00 0 z0 z0 nS nS nS nS nS nS nS 0 0) w (w.alloc (.cells (s00 0 z0 z0 nS nS nS nS nS nS nS 0 0) 39)) t) := Lib.hid (Fz.start 39 (s00 0 z0 z0 nS nS nS nS nS nS nS 0 0) h)
  have hI := fun w h => items_tr N B n hn self hself hle t w h ht
  unfold GivesL at hI; rw [e1] at hI; dsimp only at hI
  have HL1 : Hid (t1.rest.length ≤ n) := Lib.hid (by have a := itemsP_le hle t; rw [e1] at a; dsimp only at a; skip; omega)
  have hT := fun w h => tables_tr N B n hn self hself hle (t1.need wFrom) w h (by have b := St.need_le t1 wFrom; have c := HL1.out; omega)
  unfold GivesL at hT; rw [e2] at hT; dsimp only at hT
  have HL2 : Hid (t2.rest.length ≤ n) := Lib.hid (by have a := tablesP_le hle (t1.need wFrom); rw [e2] at a; dsimp only at a; have b := St.need_le t1 wFrom; have c := HL1.out; omega)
  have hW := fun w h => condition_tr N B n self hself ⟨#[119, 104, 101, 114, 101]⟩ (by decide) t2 w h HL2.out
  rw [show condP self (⟨#[119, 104, 101, 114, 101]⟩ : ByteArray).data.toList t2 = condP self wWhere t2 from rfl] at hW
  unfold GivesX at hW; rw [e3] at hW; dsimp only at hW
  have HL3 : Hid (t3.rest.length ≤ n) := Lib.hid (by have a := condP_le hle wWhere t2; rw [e3] at a; dsimp only at a; have c := HL2.out; omega)
  have hG := fun w h => phrase_tr N B ⟨#[103, 114, 111, 117, 112]⟩ ⟨#[98, 121]⟩ (by decide) (by decide) t3 w h
  rw [show phraseP (⟨#[103, 114, 111, 117, 112]⟩ : ByteArray).data.toList (⟨#[98, 121]⟩ : ByteArray).data.toList t3 = phraseP wGroup wBy t3 from rfl, e4] at hG; dsimp only at hG
  have HL4 : Hid (t4.rest.length ≤ n) := Lib.hid (by have a := phraseP_le wGroup wBy t3; rw [e4] at a; dsimp only at a; have c := HL3.out; omega)
  have hL := fun w h => listEx_tr N B n 35 hn (fun _ _ => by kernel_rfl) self hself.row hle t4 w h HL4.out
  unfold GivesL at hL; rw [e5] at hL; dsimp only at hL
  have HL5 : Hid (t5.rest.length ≤ n) := Lib.hid (by have a := listP_le hle t4; rw [e5] at a; dsimp only at a; have c := HL4.out; omega)
  have hH := fun w h => condition_tr N B n self hself ⟨#[104, 97, 118, 105, 110, 103]⟩ (by decide) t5 w h HL5.out
  rw [show condP self (⟨#[104, 97, 118, 105, 110, 103]⟩ : ByteArray).data.toList t5 = condP self wHaving t5 from rfl] at hH
  unfold GivesX at hH; rw [e6] at hH; dsimp only at hH
  have HL6 : Hid (t6.rest.length ≤ n) := Lib.hid (by have a := condP_le hle wHaving t5; rw [e6] at a; dsimp only at a; have c := HL5.out; omega)
  have hO := fun w h => phrase_tr N B ⟨#[111, 114, 100, 101, 114]⟩ ⟨#[98, 121]⟩ (by decide) (by decide) t6 w h
  rw [show phraseP (⟨#[111, 114, 100, 101, 114]⟩ : ByteArray).data.toList (⟨#[98, 121]⟩ : ByteArray).data.toList t6 = phraseP wOrder wBy t6 from rfl, e7] at hO; dsimp only at hO
  have HL7 : Hid (t7.rest.length ≤ n) := Lib.hid (by have a := phraseP_le wOrder wBy t6; rw [e7] at a; dsimp only at a; have c := HL6.out; omega)
  have hD := fun w h => listOrder_tr N B n 101 hn (fun _ _ => by kernel_rfl) (orderP self) (order_tr N B n self hself hle) (orderP_le hle) t7 w h HL7.out
  unfold GivesL at hD; rw [e8] at hD; dsimp only at hD
  have hK := fun w h => number_tr N B t8.step w h
  rw [e9] at hK; dsimp only at hK
  have hM := fun w h => number_tr N B t9.step w h
  rw [e10] at hM; dsimp only at hM
  clear h e1 e2 e3 e4 e7 e5 e6 e8 e9 e10
  go_enter Tryz.func55, Tryz.ntmps55
  obtain ⟨w1, hw1⟩ : ∃ w1, w1 = ((w.alloc (.cells (s00 0 z0 z0 nS nS nS nS nS nS nS 0 0) 39)).alloc (.cells (s00 0 z0 z0 nS nS nS nS nS nS nS 0 0) 39)).setRow (w.heap.size + 1) (s00 7 z0 z0 nS nS nS nS nS nS nS ((-1)) 0) := ⟨_, rfl⟩
  have F1 : Hid (Fs N B w.heap.size (w.heap.size + 1) (s00 7 z0 z0 nS nS nS nS nS nS nS ((-1)) 0) w w1 (t) ⟨7, [], [], [], [], [], [], [], noE, [], noE, [], -1, 0⟩ nS nS nS nS nS nS nS nS nS) := Lib.hid (by rw [hw1]; exact Fs.begin F0.out (s00 7 z0 z0 nS nS nS nS nS nS nS ((-1)) 0) _ rfl)
  have ZX : Hid (((w.alloc (.cells (s00 0 z0 z0 nS nS nS nS nS nS nS 0 0) 39)).alloc (.cells (s00 0 z0 z0 nS nS nS nS nS nS nS 0 0) 39)).heap[w.heap.size + 1]? = some (.cells (s00 0 z0 z0 nS nS nS nS nS nS nS 0 0) 39 (0, 0))) := Lib.hid Fs.begin0
  go_wp2_with (first
    | (refine wpList_store_row rfl 39 _ _ rfl (w.heap.size + 1) (s00 7 z0 z0 nS nS nS nS nS nS nS ((-1)) 0) rfl rfl _ _ ZX.out (by kernel_rfl) rfl (by simp [Value.oneCell']) ?_; rw [← hw1]; clear hw1))
  refine (hI _ F1.out.z.rd).mono ?_
  rintro e w2 ⟨v1, rfl, hrow, hr, hq⟩
  obtain ⟨a1, b1, hv, _⟩ := hrow.slice
  subst hv
  have F2 := Lib.hid (F1.out.call hr hq)
  have Q2 := Lib.hid (F1.out.gotL hrow)
  clear hrow hr hq
  have F3 : Hid (Fs N B w.heap.size (w.heap.size + 1) (s00 7 z0 z0 nS nS nS nS nS nS nS ((-1)) 0) w w2 (t1) ⟨7, [], [], [], [], [], is, [], noE, [], noE, [], -1, 0⟩ nS nS nS (.slice a1 (is).length b1) nS nS nS nS nS) := Lib.hid (F2.out.items Q2.out)
  have c2 : w2.cell? ⟨(w.heap.size + 1), 6, none⟩ = some nS := bk_cell F3.out.blk 6
  have z2 : w2.frozen? ⟨(w.heap.size + 1), 6, none⟩ = false := bk_free F3.out.blk 6
  have HS2 : Hid ((w2.setCell ⟨(w.heap.size + 1), 6, none⟩ (.slice a1 (is).length b1)) = w2.setRow (w.heap.size + 1) (s00 7 z0 z0 nS nS nS (.slice a1 (is).length b1) nS nS nS ((-1)) 0)) := Lib.hid ((setCell_eq_setRow w2 (w.heap.size + 1) 6 _ _ _ (.slice a1 (is).length b1) F3.out.blk).trans (congrArg (w2.setRow (w.heap.size + 1)) rfl))
  have F4 : Hid (Fs N B w.heap.size (w.heap.size + 1) (s00 7 z0 z0 nS nS nS (.slice a1 (is).length b1) nS nS nS ((-1)) 0) w (w2.setCell ⟨(w.heap.size + 1), 6, none⟩ (.slice a1 (is).length b1)) (t1) ⟨7, [], [], [], [], [], is, [], noE, [], noE, [], -1, 0⟩ nS nS nS (.slice a1 (is).length b1) nS nS nS nS nS) := Lib.hid (by rw [HS2.out]; exact F3.out.set _)
  go_wp2_with fail
  refine (need_any N B t1 ⟨#[102, 114, 111, 109]⟩ _ F4.out.z.rd (by decide)).mono ?_
  rintro e w5 ⟨rfl, hr, hq⟩
  have F5 := Lib.hid (F4.out.call hr hq)
  clear hr hq
  go_wp2_with fail
  refine (hT _ F5.out.z.rd).mono ?_
  rintro e w6 ⟨v5, rfl, hrow, hr, hq⟩
  obtain ⟨a5, b5, hv, _⟩ := hrow.slice
  subst hv
  have F6 := Lib.hid (F5.out.call hr hq)
  have Q6 := Lib.hid (F5.out.gotL hrow)
  clear hrow hr hq
  have F7 : Hid (Fs N B w.heap.size (w.heap.size + 1) (s00 7 z0 z0 nS nS nS (.slice a1 (is).length b1) nS nS nS ((-1)) 0) w w6 (t2) ⟨7, [], [], [], [], [], is, fs, noE, [], noE, [], -1, 0⟩ nS nS nS (.slice a1 (is).length b1) (.slice a5 (fs).length b5) nS nS nS nS) := Lib.hid (F6.out.tables Q6.out)
  have c6 : w6.cell? ⟨(w.heap.size + 1), 7, none⟩ = some nS := bk_cell F7.out.blk 7
  have z6 : w6.frozen? ⟨(w.heap.size + 1), 7, none⟩ = false := bk_free F7.out.blk 7
  have HS6 : Hid ((w6.setCell ⟨(w.heap.size + 1), 7, none⟩ (.slice a5 (fs).length b5)) = w6.setRow (w.heap.size + 1) (s00 7 z0 z0 nS nS nS (.slice a1 (is).length b1) (.slice a5 (fs).length b5) nS nS ((-1)) 0)) := Lib.hid ((setCell_eq_setRow w6 (w.heap.size + 1) 7 _ _ _ (.slice a5 (fs).length b5) F7.out.blk).trans (congrArg (w6.setRow (w.heap.size + 1)) rfl))
  have F8 : Hid (Fs N B w.heap.size (w.heap.size + 1) (s00 7 z0 z0 nS nS nS (.slice a1 (is).length b1) (.slice a5 (fs).length b5) nS nS ((-1)) 0) w (w6.setCell ⟨(w.heap.size + 1), 7, none⟩ (.slice a5 (fs).length b5)) (t2) ⟨7, [], [], [], [], [], is, fs, noE, [], noE, [], -1, 0⟩ nS nS nS (.slice a1 (is).length b1) (.slice a5 (fs).length b5) nS nS nS nS) := Lib.hid (by rw [HS6.out]; exact F7.out.set _)
  go_wp2_with fail
  refine (hW _ F8.out.z.rd).mono ?_
  rintro e w9 ⟨v8, rfl, hs, hr, hq⟩
  obtain ⟨a8, n8, b8, hu⟩ := hs.slice
  subst hu
  have F9 : Hid (Fs N B w.heap.size (w.heap.size + 1) (s00 7 z0 z0 nS nS nS (.slice a1 (is).length b1) (.slice a5 (fs).length b5) nS nS ((-1)) 0) w w9 (t3) ⟨7, [], [], [], [], [], is, fs, x1, [], noE, [], -1, 0⟩ nS nS nS (.slice a1 (is).length b1) (.slice a5 (fs).length b5) (.slice a8 n8 b8) nS nS nS) := Lib.hid ((F8.out.call hr hq).cond (e := x1) (F8.out.gotX hs))
  obtain ⟨w10, hw10⟩ : ∃ w10, w10 = w9.setRow (w.heap.size + 1) (s10 7 z0 z0 nS nS nS (.slice a1 (is).length b1) (.slice a5 (fs).length b5) x1.a (.slice a8 n8 b8) nS nS ((-1)) 0) := ⟨_, rfl⟩
  have F10 : Hid (Fs N B w.heap.size (w.heap.size + 1) (s10 7 z0 z0 nS nS nS (.slice a1 (is).length b1) (.slice a5 (fs).length b5) x1.a (.slice a8 n8 b8) nS nS ((-1)) 0) w w10 (t3) ⟨7, [], [], [], [], [], is, fs, x1, [], noE, [], -1, 0⟩ nS nS nS (.slice a1 (is).length b1) (.slice a5 (fs).length b5) (.slice a8 n8 b8) nS nS nS) := Lib.hid (by rw [hw10]; exact F9.out.set _)
  clear hs hr hq
  unfold exVal
  go_wp2_with (first
    | (refine wpList_store_field rfl 36 _ _ rfl (w.heap.size + 1) 8 (eA x1.a (.slice a8 n8 b8)) rfl rfl _ _ F9.out.blk (by kernel_rfl) (by simp [Value.oneCell']) (by simp) (s10 7 z0 z0 nS nS nS (.slice a1 (is).length b1) (.slice a5 (fs).length b5) x1.a (.slice a8 n8 b8) nS nS ((-1)) 0) rfl ?_; rw [← hw10]; clear hw10))
  refine (hG _ F10.out.z.rd).mono ?_
  rintro e w11 ⟨rfl, hr, hq⟩
  have F11 := Lib.hid (F10.out.call hr hq)
  clear hr hq
  go_wp2_with fail
  refine (hL _ F11.out.z.rd).mono ?_
  rintro e w12 ⟨v11, rfl, hrow, hr, hq⟩
  obtain ⟨a11, b11, hv, _⟩ := hrow.slice
  subst hv
  have F12 := Lib.hid (F11.out.call hr hq)
  have Q12 := Lib.hid (F11.out.gotL hrow)
  clear hrow hr hq
  have F13 : Hid (Fs N B w.heap.size (w.heap.size + 1) (s10 7 z0 z0 nS nS nS (.slice a1 (is).length b1) (.slice a5 (fs).length b5) x1.a (.slice a8 n8 b8) nS nS ((-1)) 0) w w12 (t5) ⟨7, [], [], [], [], [], is, fs, x1, gs, noE, [], -1, 0⟩ nS nS nS (.slice a1 (is).length b1) (.slice a5 (fs).length b5) (.slice a8 n8 b8) (.slice a11 (gs).length b11) nS nS) := Lib.hid (F12.out.group Q12.out)
  have c12 : w12.cell? ⟨(w.heap.size + 1), 17, none⟩ = some nS := bk_cell F13.out.blk 17
  have z12 : w12.frozen? ⟨(w.heap.size + 1), 17, none⟩ = false := bk_free F13.out.blk 17
  have HS12 : Hid ((w12.setCell ⟨(w.heap.size + 1), 17, none⟩ (.slice a11 (gs).length b11)) = w12.setRow (w.heap.size + 1) (s10 7 z0 z0 nS nS nS (.slice a1 (is).length b1) (.slice a5 (fs).length b5) x1.a (.slice a8 n8 b8) (.slice a11 (gs).length b11) nS ((-1)) 0)) := Lib.hid ((setCell_eq_setRow w12 (w.heap.size + 1) 17 _ _ _ (.slice a11 (gs).length b11) F13.out.blk).trans (congrArg (w12.setRow (w.heap.size + 1)) rfl))
  have F14 : Hid (Fs N B w.heap.size (w.heap.size + 1) (s10 7 z0 z0 nS nS nS (.slice a1 (is).length b1) (.slice a5 (fs).length b5) x1.a (.slice a8 n8 b8) (.slice a11 (gs).length b11) nS ((-1)) 0) w (w12.setCell ⟨(w.heap.size + 1), 17, none⟩ (.slice a11 (gs).length b11)) (t5) ⟨7, [], [], [], [], [], is, fs, x1, gs, noE, [], -1, 0⟩ nS nS nS (.slice a1 (is).length b1) (.slice a5 (fs).length b5) (.slice a8 n8 b8) (.slice a11 (gs).length b11) nS nS) := Lib.hid (by rw [HS12.out]; exact F13.out.set _)
  go_wp2_with fail
  refine (hH _ F14.out.z.rd).mono ?_
  rintro e w15 ⟨v14, rfl, hs, hr, hq⟩
  obtain ⟨a14, n14, b14, hu⟩ := hs.slice
  subst hu
  have F15 : Hid (Fs N B w.heap.size (w.heap.size + 1) (s10 7 z0 z0 nS nS nS (.slice a1 (is).length b1) (.slice a5 (fs).length b5) x1.a (.slice a8 n8 b8) (.slice a11 (gs).length b11) nS ((-1)) 0) w w15 (t6) ⟨7, [], [], [], [], [], is, fs, x1, gs, x2, [], -1, 0⟩ nS nS nS (.slice a1 (is).length b1) (.slice a5 (fs).length b5) (.slice a8 n8 b8) (.slice a11 (gs).length b11) (.slice a14 n14 b14) nS) := Lib.hid ((F14.out.call hr hq).having_ (e := x2) (F14.out.gotX hs))
  obtain ⟨w16, hw16⟩ : ∃ w16, w16 = w15.setRow (w.heap.size + 1) (s11 7 z0 z0 nS nS nS (.slice a1 (is).length b1) (.slice a5 (fs).length b5) x1.a (.slice a8 n8 b8) (.slice a11 (gs).length b11) x2.a (.slice a14 n14 b14) nS ((-1)) 0) := ⟨_, rfl⟩
  have F16 : Hid (Fs N B w.heap.size (w.heap.size + 1) (s11 7 z0 z0 nS nS nS (.slice a1 (is).length b1) (.slice a5 (fs).length b5) x1.a (.slice a8 n8 b8) (.slice a11 (gs).length b11) x2.a (.slice a14 n14 b14) nS ((-1)) 0) w w16 (t6) ⟨7, [], [], [], [], [], is, fs, x1, gs, x2, [], -1, 0⟩ nS nS nS (.slice a1 (is).length b1) (.slice a5 (fs).length b5) (.slice a8 n8 b8) (.slice a11 (gs).length b11) (.slice a14 n14 b14) nS) := Lib.hid (by rw [hw16]; exact F15.out.set _)
  clear hs hr hq
  unfold exVal
  go_wp2_with (first
    | (refine wpList_store_field rfl 36 _ _ rfl (w.heap.size + 1) 18 (eA x2.a (.slice a14 n14 b14)) rfl rfl _ _ F15.out.blk (by kernel_rfl) (by simp [Value.oneCell']) (by simp) (s11 7 z0 z0 nS nS nS (.slice a1 (is).length b1) (.slice a5 (fs).length b5) x1.a (.slice a8 n8 b8) (.slice a11 (gs).length b11) x2.a (.slice a14 n14 b14) nS ((-1)) 0) rfl ?_; rw [← hw16]; clear hw16))
  refine (hO _ F16.out.z.rd).mono ?_
  rintro e w17 ⟨rfl, hr, hq⟩
  have F17 := Lib.hid (F16.out.call hr hq)
  clear hr hq
  go_wp2_with fail
  refine (hD _ F17.out.z.rd).mono ?_
  rintro e w18 ⟨v17, rfl, hrow, hr, hq⟩
  obtain ⟨a17, b17, hv, _⟩ := hrow.slice
  subst hv
  have F18 := Lib.hid (F17.out.call hr hq)
  have Q18 := Lib.hid (F17.out.gotL hrow)
  clear hrow hr hq
  have F19 : Hid (Fs N B w.heap.size (w.heap.size + 1) (s11 7 z0 z0 nS nS nS (.slice a1 (is).length b1) (.slice a5 (fs).length b5) x1.a (.slice a8 n8 b8) (.slice a11 (gs).length b11) x2.a (.slice a14 n14 b14) nS ((-1)) 0) w w18 (t8) ⟨7, [], [], [], [], [], is, fs, x1, gs, x2, os, -1, 0⟩ nS nS nS (.slice a1 (is).length b1) (.slice a5 (fs).length b5) (.slice a8 n8 b8) (.slice a11 (gs).length b11) (.slice a14 n14 b14) (.slice a17 (os).length b17)) := Lib.hid (F18.out.order Q18.out)
  have c18 : w18.cell? ⟨(w.heap.size + 1), 27, none⟩ = some nS := bk_cell F19.out.blk 27
  have z18 : w18.frozen? ⟨(w.heap.size + 1), 27, none⟩ = false := bk_free F19.out.blk 27
  have HS18 : Hid ((w18.setCell ⟨(w.heap.size + 1), 27, none⟩ (.slice a17 (os).length b17)) = w18.setRow (w.heap.size + 1) (s11 7 z0 z0 nS nS nS (.slice a1 (is).length b1) (.slice a5 (fs).length b5) x1.a (.slice a8 n8 b8) (.slice a11 (gs).length b11) x2.a (.slice a14 n14 b14) (.slice a17 (os).length b17) ((-1)) 0)) := Lib.hid ((setCell_eq_setRow w18 (w.heap.size + 1) 27 _ _ _ (.slice a17 (os).length b17) F19.out.blk).trans (congrArg (w18.setRow (w.heap.size + 1)) rfl))
  have F20 : Hid (Fs N B w.heap.size (w.heap.size + 1) (s11 7 z0 z0 nS nS nS (.slice a1 (is).length b1) (.slice a5 (fs).length b5) x1.a (.slice a8 n8 b8) (.slice a11 (gs).length b11) x2.a (.slice a14 n14 b14) (.slice a17 (os).length b17) ((-1)) 0) w (w18.setCell ⟨(w.heap.size + 1), 27, none⟩ (.slice a17 (os).length b17)) (t8) ⟨7, [], [], [], [], [], is, fs, x1, gs, x2, os, -1, 0⟩ nS nS nS (.slice a1 (is).length b1) (.slice a5 (fs).length b5) (.slice a8 n8 b8) (.slice a11 (gs).length b11) (.slice a14 n14 b14) (.slice a17 (os).length b17)) := Lib.hid (by rw [HS18.out]; exact F19.out.set _)
  go_wp2_with fail
  refine (take_yes N B t8 ⟨#[108, 105, 109, 105, 116]⟩ _ F20.out.z.rd hb (by decide)).mono ?_
  rintro e w21 ⟨rfl, hr, hq⟩
  have F21 := Lib.hid (F20.out.call hr hq)
  clear hr hq
  go_wp2_with fail
  refine (hK _ F21.out.z.rd).mono ?_
  rintro e w22 ⟨rfl, hr, hq⟩
  have F22 := Lib.hid (F21.out.call hr hq)
  clear hr hq
  have F23 : Hid (Fs N B w.heap.size (w.heap.size + 1) (s11 7 z0 z0 nS nS nS (.slice a1 (is).length b1) (.slice a5 (fs).length b5) x1.a (.slice a8 n8 b8) (.slice a11 (gs).length b11) x2.a (.slice a14 n14 b14) (.slice a17 (os).length b17) ((-1)) 0) w w22 (t9) ⟨7, [], [], [], [], [], is, fs, x1, gs, x2, os, (k : Int), 0⟩ nS nS nS (.slice a1 (is).length b1) (.slice a5 (fs).length b5) (.slice a8 n8 b8) (.slice a11 (gs).length b11) (.slice a14 n14 b14) (.slice a17 (os).length b17)) := Lib.hid (F22.out.limit (k : Int))
  have c22 : w22.cell? ⟨(w.heap.size + 1), 28, none⟩ = some (.int .i64 (-1)) := bk_cell F23.out.blk 28
  have z22 : w22.frozen? ⟨(w.heap.size + 1), 28, none⟩ = false := bk_free F23.out.blk 28
  have HS22 : Hid ((w22.setCell ⟨(w.heap.size + 1), 28, none⟩ (.int .i64 (k : Int))) = w22.setRow (w.heap.size + 1) (s11 7 z0 z0 nS nS nS (.slice a1 (is).length b1) (.slice a5 (fs).length b5) x1.a (.slice a8 n8 b8) (.slice a11 (gs).length b11) x2.a (.slice a14 n14 b14) (.slice a17 (os).length b17) ((k : Int)) 0)) := Lib.hid ((setCell_eq_setRow w22 (w.heap.size + 1) 28 _ _ _ (.int .i64 (k : Int)) F23.out.blk).trans (congrArg (w22.setRow (w.heap.size + 1)) rfl))
  have F24 : Hid (Fs N B w.heap.size (w.heap.size + 1) (s11 7 z0 z0 nS nS nS (.slice a1 (is).length b1) (.slice a5 (fs).length b5) x1.a (.slice a8 n8 b8) (.slice a11 (gs).length b11) x2.a (.slice a14 n14 b14) (.slice a17 (os).length b17) ((k : Int)) 0) w (w22.setCell ⟨(w.heap.size + 1), 28, none⟩ (.int .i64 (k : Int))) (t9) ⟨7, [], [], [], [], [], is, fs, x1, gs, x2, os, (k : Int), 0⟩ nS nS nS (.slice a1 (is).length b1) (.slice a5 (fs).length b5) (.slice a8 n8 b8) (.slice a11 (gs).length b11) (.slice a14 n14 b14) (.slice a17 (os).length b17)) := Lib.hid (by rw [HS22.out]; exact F23.out.set _)
  go_wp2_with fail
  refine (take_yes N B t9 ⟨#[111, 102, 102, 115, 101, 116]⟩ _ F24.out.z.rd hc (by decide)).mono ?_
  rintro e w25 ⟨rfl, hr, hq⟩
  have F25 := Lib.hid (F24.out.call hr hq)
  clear hr hq
  go_wp2_with fail
  refine (hM _ F25.out.z.rd).mono ?_
  rintro e w26 ⟨rfl, hr, hq⟩
  have F26 := Lib.hid (F25.out.call hr hq)
  clear hr hq
  have F27 : Hid (Fs N B w.heap.size (w.heap.size + 1) (s11 7 z0 z0 nS nS nS (.slice a1 (is).length b1) (.slice a5 (fs).length b5) x1.a (.slice a8 n8 b8) (.slice a11 (gs).length b11) x2.a (.slice a14 n14 b14) (.slice a17 (os).length b17) ((k : Int)) 0) w w26 (t10) ⟨7, [], [], [], [], [], is, fs, x1, gs, x2, os, (k : Int), (k2 : Int)⟩ nS nS nS (.slice a1 (is).length b1) (.slice a5 (fs).length b5) (.slice a8 n8 b8) (.slice a11 (gs).length b11) (.slice a14 n14 b14) (.slice a17 (os).length b17)) := Lib.hid (F26.out.skip (k2 : Int))
  have c26 : w26.cell? ⟨(w.heap.size + 1), 29, none⟩ = some (.int .i64 0) := bk_cell F27.out.blk 29
  have z26 : w26.frozen? ⟨(w.heap.size + 1), 29, none⟩ = false := bk_free F27.out.blk 29
  have HS26 : Hid ((w26.setCell ⟨(w.heap.size + 1), 29, none⟩ (.int .i64 (k2 : Int))) = w26.setRow (w.heap.size + 1) (s11 7 z0 z0 nS nS nS (.slice a1 (is).length b1) (.slice a5 (fs).length b5) x1.a (.slice a8 n8 b8) (.slice a11 (gs).length b11) x2.a (.slice a14 n14 b14) (.slice a17 (os).length b17) ((k : Int)) ((k2 : Int)))) := Lib.hid ((setCell_eq_setRow w26 (w.heap.size + 1) 29 _ _ _ (.int .i64 (k2 : Int)) F27.out.blk).trans (congrArg (w26.setRow (w.heap.size + 1)) rfl))
  have F28 : Hid (Fs N B w.heap.size (w.heap.size + 1) (s11 7 z0 z0 nS nS nS (.slice a1 (is).length b1) (.slice a5 (fs).length b5) x1.a (.slice a8 n8 b8) (.slice a11 (gs).length b11) x2.a (.slice a14 n14 b14) (.slice a17 (os).length b17) ((k : Int)) ((k2 : Int))) w (w26.setCell ⟨(w.heap.size + 1), 29, none⟩ (.int .i64 (k2 : Int))) (t10) ⟨7, [], [], [], [], [], is, fs, x1, gs, x2, os, (k : Int), (k2 : Int)⟩ nS nS nS (.slice a1 (is).length b1) (.slice a5 (fs).length b5) (.slice a8 n8 b8) (.slice a11 (gs).length b11) (.slice a14 n14 b14) (.slice a17 (os).length b17)) := Lib.hid (by rw [HS26.out]; exact F27.out.set _)
  go_wp2_with (first
    | (refine wpList_load_row rfl 39 _ rfl (w.heap.size + 1) rfl _ (s11 7 z0 z0 nS nS nS (.slice a1 (is).length b1) (.slice a5 (fs).length b5) x1.a (.slice a8 n8 b8) (.slice a11 (gs).length b11) x2.a (.slice a14 n14 b14) (.slice a17 (os).length b17) ((k : Int)) ((k2 : Int))) (0, 0) _ F28.out.blk Tryz.underlying39 rfl (by kernel_rfl) ?_)
    | (refine wpList_store_row rfl 39 _ _ rfl w.heap.size (s11 7 z0 z0 nS nS nS (.slice a1 (is).length b1) (.slice a5 (fs).length b5) x1.a (.slice a8 n8 b8) (.slice a11 (gs).length b11) x2.a (.slice a14 n14 b14) (.slice a17 (os).length b17) ((k : Int)) ((k2 : Int))) rfl rfl _ _ F28.out.z.res (by kernel_rfl) rfl (by simp [Value.oneCell']) ?_))
  refine bodyPost_ret (results_cell_row Tryz.results55 _ _ w.heap.size 39 (s11 7 z0 z0 nS nS nS (.slice a1 (is).length b1) (.slice a5 (fs).length b5) x1.a (.slice a8 n8 b8) (.slice a11 (gs).length b11) x2.a (.slice a14 n14 b14) (.slice a17 (os).length b17) ((k : Int)) ((k2 : Int))) (0, 0) _ rfl (setRow_heap _ _ _ _ _ _ F28.out.z.res) Tryz.underlying39 rfl (by kernel_rfl)) rfl ?_
  exact F28.out.done rfl
theorem group_cases (self : Self) (t : St) : (∃ t6, phraseP wGroup wBy t = (false, t6) ∧ groupP self t = (([], noE), t6)) ∨ (∃ t4 gs t5 x2 t6, phraseP wGroup wBy t = (true, t4) ∧ listP self t4 = (gs, t5) ∧ condP self wHaving t5 = (x2, t6) ∧ groupP self t = ((gs, x2), t6)) := by
  unfold groupP
  obtain ⟨⟨b, t4⟩, e⟩ : ∃ p, phraseP wGroup wBy t = p := ⟨_, rfl⟩
  dsimp only
  rw [e]
  cases b with
  | false => exact .inl ⟨t4, rfl, rfl⟩
  | true => exact .inr ⟨t4, _, _, _, _, rfl, pairP _, pairP _, rfl⟩
theorem orders_cases (self : Self) (t : St) : (∃ t8, phraseP wOrder wBy t = (false, t8) ∧ ordersP self t = ([], t8)) ∨ (∃ t7 os t8, phraseP wOrder wBy t = (true, t7) ∧ listP (orderP self) t7 = (os, t8) ∧ ordersP self t = (os, t8)) := by
  unfold ordersP
  obtain ⟨⟨b, t7⟩, e⟩ : ∃ p, phraseP wOrder wBy t = p := ⟨_, rfl⟩
  dsimp only
  rw [e]
  cases b with
  | false => exact .inl ⟨t7, rfl, rfl⟩
  | true => exact .inr ⟨t7, _, _, rfl, pairP _, rfl⟩
theorem limit_cases (t : St) : (t.has wLimit = false ∧ limitP t = ((-1, 0), t)) ∨ (∃ k t9, t.has wLimit = true ∧ numberP t.step = (k, t9) ∧ t9.has wOffset = false ∧ limitP t = (((k : Int), 0), t9)) ∨
    (∃ k t9 k2 t10, t.has wLimit = true ∧ numberP t.step = (k, t9) ∧ t9.has wOffset = true ∧ numberP t9.step = (k2, t10) ∧ limitP t = (((k : Int), (k2 : Int)), t10)) := by
  unfold limitP
  cases hb : t.has wLimit with
  | false => exact .inl ⟨rfl, by rw [if_neg (by simp)]⟩
  | true =>
    rw [if_pos rfl]
    obtain ⟨⟨k, t9⟩, e⟩ : ∃ p, numberP t.step = p := ⟨_, rfl⟩
    rw [e]
    dsimp only
    cases hc : t9.has wOffset with
    | false => exact .inr (.inl ⟨k, t9, rfl, rfl, hc, by rw [if_neg (by simp)]⟩)
    | true =>
      obtain ⟨⟨k2, t10⟩, e2⟩ : ∃ p, numberP t9.step = p := ⟨_, rfl⟩
      exact .inr (.inr ⟨k, t9, k2, t10, rfl, rfl, hc, e2, by rw [if_pos rfl, e2]⟩)
theorem select_eq {self : Self} {t t1 t2 t3 t6 t8 t9 : St} {is : List ItemM} {fs : List FromM} {x1 x2 : Ex} {gs : List Ex} {os : List OrderM} {l s : Int} (e1 : itemsP self t = (is, t1)) (e2 : tablesP self (t1.need wFrom) = (fs, t2)) (e3 : condP self wWhere t2 = (x1, t3))
    (e4 : groupP self t3 = ((gs, x2), t6)) (e5 : ordersP self t6 = (os, t8)) (e6 : limitP t8 = ((l, s), t9)) : selectP self t = (⟨7, [], [], [], [], [], is, fs, x1, gs, x2, os, l, s⟩, t9) := by
  unfold selectP
  dsimp only
  rw [e1]; dsimp only
  rw [e2]; dsimp only
  rw [e3]; dsimp only
  rw [e4]; dsimp only
  rw [e5]; dsimp only
  rw [e6]
theorem select_tr (N B n : Nat) (hn : n ≤ 900000) (self : St → Ex × St) (hself : ReadsX N B n 35 self) (hle : Le self) (t : St) (w : World) (h : RdAt N w B t) (ht : t.rest.length ≤ n) :
    Calls Tryz.prog 55 #[.pointer (some ⟨B, 0, none⟩)] w (GivesS N B (selectP self t) w) := by
  obtain ⟨⟨is, t1⟩, e1⟩ : ∃ p, itemsP self t = p := ⟨_, rfl⟩
  obtain ⟨⟨fs, t2⟩, e2⟩ : ∃ p, tablesP self (t1.need wFrom) = p := ⟨_, rfl⟩
  obtain ⟨⟨x1, t3⟩, e3⟩ : ∃ p, condP self wWhere t2 = p := ⟨_, rfl⟩
  rcases group_cases self t3 with ⟨t6, g1, g2⟩ | ⟨t4, gs, t5, x2, t6, g1, g2, g3, g4⟩
  · rcases orders_cases self t6 with ⟨t8, d1, d2⟩ | ⟨t7, os, t8, d1, d2, d3⟩
    · rcases limit_cases t8 with ⟨l1, l2⟩ | ⟨k, t9, l1, l2, l3, l4⟩ | ⟨k, t9, k2, t10, l1, l2, l3, l4, l5⟩
      · rw [select_eq e1 e2 e3 g2 d2 l2]; exact select_000 N B n hn self hself hle t w h ht is fs x1 t1 t2 t3 t3 t3 t6 t6 t8 t8 t8 [] noE [] 0 0 e1 e2 e3 g1 d1 l1
      · rw [select_eq e1 e2 e3 g2 d2 l4]; exact select_001 N B n hn self hself hle t w h ht is fs x1 t1 t2 t3 t3 t3 t6 t6 t8 t9 t8 [] noE [] k 0 e1 e2 e3 g1 d1 l1 l2 l3
      · rw [select_eq e1 e2 e3 g2 d2 l5]; exact select_002 N B n hn self hself hle t w h ht is fs x1 t1 t2 t3 t3 t3 t6 t6 t8 t9 t10 [] noE [] k k2 e1 e2 e3 g1 d1 l1 l2 l3 l4
    · rcases limit_cases t8 with ⟨l1, l2⟩ | ⟨k, t9, l1, l2, l3, l4⟩ | ⟨k, t9, k2, t10, l1, l2, l3, l4, l5⟩
      · rw [select_eq e1 e2 e3 g2 d3 l2]; exact select_010 N B n hn self hself hle t w h ht is fs x1 t1 t2 t3 t3 t3 t6 t7 t8 t8 t8 [] noE os 0 0 e1 e2 e3 g1 d1 d2 l1
      · rw [select_eq e1 e2 e3 g2 d3 l4]; exact select_011 N B n hn self hself hle t w h ht is fs x1 t1 t2 t3 t3 t3 t6 t7 t8 t9 t8 [] noE os k 0 e1 e2 e3 g1 d1 d2 l1 l2 l3
      · rw [select_eq e1 e2 e3 g2 d3 l5]; exact select_012 N B n hn self hself hle t w h ht is fs x1 t1 t2 t3 t3 t3 t6 t7 t8 t9 t10 [] noE os k k2 e1 e2 e3 g1 d1 d2 l1 l2 l3 l4
  · rcases orders_cases self t6 with ⟨t8, d1, d2⟩ | ⟨t7, os, t8, d1, d2, d3⟩
    · rcases limit_cases t8 with ⟨l1, l2⟩ | ⟨k, t9, l1, l2, l3, l4⟩ | ⟨k, t9, k2, t10, l1, l2, l3, l4, l5⟩
      · rw [select_eq e1 e2 e3 g4 d2 l2]; exact select_100 N B n hn self hself hle t w h ht is fs x1 t1 t2 t3 t4 t5 t6 t6 t8 t8 t8 gs x2 [] 0 0 e1 e2 e3 g1 g2 g3 d1 l1
      · rw [select_eq e1 e2 e3 g4 d2 l4]; exact select_101 N B n hn self hself hle t w h ht is fs x1 t1 t2 t3 t4 t5 t6 t6 t8 t9 t8 gs x2 [] k 0 e1 e2 e3 g1 g2 g3 d1 l1 l2 l3
      · rw [select_eq e1 e2 e3 g4 d2 l5]; exact select_102 N B n hn self hself hle t w h ht is fs x1 t1 t2 t3 t4 t5 t6 t6 t8 t9 t10 gs x2 [] k k2 e1 e2 e3 g1 g2 g3 d1 l1 l2 l3 l4
    · rcases limit_cases t8 with ⟨l1, l2⟩ | ⟨k, t9, l1, l2, l3, l4⟩ | ⟨k, t9, k2, t10, l1, l2, l3, l4, l5⟩
      · rw [select_eq e1 e2 e3 g4 d3 l2]; exact select_110 N B n hn self hself hle t w h ht is fs x1 t1 t2 t3 t4 t5 t6 t7 t8 t8 t8 gs x2 os 0 0 e1 e2 e3 g1 g2 g3 d1 d2 l1
      · rw [select_eq e1 e2 e3 g4 d3 l4]; exact select_111 N B n hn self hself hle t w h ht is fs x1 t1 t2 t3 t4 t5 t6 t7 t8 t9 t8 gs x2 os k 0 e1 e2 e3 g1 g2 g3 d1 d2 l1 l2 l3
      · rw [select_eq e1 e2 e3 g4 d3 l5]; exact select_112 N B n hn self hself hle t w h ht is fs x1 t1 t2 t3 t4 t5 t6 t7 t8 t9 t10 gs x2 os k k2 e1 e2 e3 g1 g2 g3 d1 d2 l1 l2 l3 l4
end
end Go.Proofs.YtenmnpbjnbdeaaaGreatDoor
