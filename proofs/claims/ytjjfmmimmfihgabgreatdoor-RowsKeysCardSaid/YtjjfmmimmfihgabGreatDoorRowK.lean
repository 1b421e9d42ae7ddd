/-
  WHAT IS PROVED: Get refuses a value that may not be, and a byte too many (two inputs).
-/
import Derived.Test.YtjjfmmimmfihgabGreatDoorRowJ
namespace Go.Proofs.YtjjfmmimmfihgabGreatDoor
open Go.RowKit Go.Lib
set_option linter.unusedVariables false

theorem infoV : ∃ i, Tryz.prog.info? 25 = some i ∧ i.zero = some (.agg #[.int .u8 0, .int .i64 0, .string ⟨#[]⟩]) ∧ i.size = 3 ∧ i.bytes ≤ 1000 := by
  have h : (Tryz.prog.info? 25).isSome = true := by kernel_rfl
  obtain ⟨i, hi⟩ := Option.isSome_iff_exists.1 h
  have hz : (Tryz.prog.info? 25).bind (·.zero) = some (.agg #[.int .u8 0, .int .i64 0, .string ⟨#[]⟩]) := by kernel_rfl
  have hs : (Tryz.prog.info? 25).map (·.size) = some 3 := by kernel_rfl
  have hb : (Tryz.prog.info? 25).map (fun i => decide (i.bytes ≤ 1000)) = some true := by kernel_rfl
  rw [hi] at hz hs hb
  exact ⟨i, hi, hz, by simpa using hs, by simpa using hb⟩
theorem cells_three {w : World} {b : Nat} {a0 a1 a2 : Value} {t : TypeId} (h : w.heap[b]? = some (.cells #[a0, a1, a2] t (0, 0))) : ∀ j u, [a0, a1, a2][j]? = some u → w.cell? ((⟨b, 0, none⟩ : Addr).add j) = some u := by
  intro j u hu
  have e : (⟨b, 0, none⟩ : Addr).add j = ⟨b, j, none⟩ := by rw [Addr.add_lit, Nat.zero_add]
  rw [e]
  refine (cell_of_block h j).trans ?_
  rw [← hu, ← List.getElem?_toArray]
theorem Gone.set {R T : Nat} {w : World} (h : Gone R w) (hn : T ≠ R) (j : Nat) (u : Value) : Gone R (w.setCell ⟨T, j, none⟩ u) := (Below.heap_setCell w ⟨T, j, none⟩ u R (fun e => hn e.symm)).trans h
theorem Gone.kept {R : Nat} {w w' : World} (h : Gone R w) (hb : Below w.heap.size w w') : Gone R w' := (hb.block _ (lt_of_block h)).trans h
theorem Skips.new {R T : Nat} {w w' : World} (h : Skips R w w') (hT : w.heap.size ≤ T) (j : Nat) (u : Value) : Skips R w (w'.setCell ⟨T, j, none⟩ u) :=
  ⟨h.os, h.tape, h.output, by simp [World.setCell]; exact h.size, fun k hk hn => (Below.heap_setCell w' ⟨T, j, none⟩ u k (by show k ≠ T; omega)).trans (h.block k hk hn)⟩
theorem next_some (R : Nat) (c : Nat) (l : List Nat) (rf : Bool) (ao : Option Addr) (n cap : Nat) (w : World) (h : Rd R (c :: l) rf ao n cap w) :
    Calls Tryz.prog 90 #[.pointer (some ⟨R, 0, none⟩)] w fun e w' => e = .returned (.int .u8 (c : Int)) ∧ (∃ ao' n' cap', Rd R l rf ao' n' cap' w') ∧ Skips R w w' := by
  have H := Lib.hid h
  clear h
  go_enter Tryz.func90, Tryz.ntmps90
  go_wp2_with fail
  refine (takeB_some R c l rf ao n cap w H.out).mono ?_
  rintro e w1 ⟨rfl, h1, h2⟩
  have H1 := Lib.hid h1
  have H2 := Lib.hid h2
  clear h1 h2
  go_wp2
  go_ret
  exact ⟨rfl, H1.out, H2.out⟩
set_option maxRecDepth 100000 in
set_option maxHeartbeats 4000000 in
theorem below17_one (R : Nat) (l : List Nat) (v : Nat) (ao : Option Addr) (n cap : Nat) (w : World) (h : Rd R l false ao n cap w) (hg : getL l = (v, 1, 0)) (hl : 0 < l.length) (hv : v < 17) :
    Calls Tryz.prog 89 #[.pointer (some ⟨R, 0, none⟩), .int .i64 17] w fun e w' => e = .returned (.int .i64 (v : Int)) ∧ (∃ ao' n' cap', Rd R (l.drop 1) false ao' n' cap' w') ∧ Skips R w w' := by
  have H := Lib.hid h
  have p1 : decide ((v : Int) < 17) = true := by rw [decide_eq_true_iff]; omega
  have p2 : IntKind.i64.wrap (v : Int) = (v : Int) := by rw [IntKind.wrap_i64]; omega
  clear h
  go_enter Tryz.func89, Tryz.ntmps89
  go_wp2_with fail
  refine (takeU_one R l v false ao n cap w H.out hg hl).mono ?_
  rintro e w1 ⟨rfl, ⟨ao1, n1, c1, h1⟩, h2⟩
  have H1 := Lib.hid h1
  have H2 := Lib.hid h2
  clear h1 h2 hg hl
  go_wp2_with fail
  refine (need_yes R w1).mono ?_
  rintro e w2 ⟨rfl, rfl⟩
  have s1 : w2.cell? ⟨R, 1, none⟩ = some (.bool false) := cell_of_block H1.out.at_ 1
  go_wp2
  go_ret
  exact ⟨rfl, ⟨_, _, _, H1.out⟩, H2.out⟩
set_option maxRecDepth 100000 in
set_option maxHeartbeats 4000000 in
theorem value_bad (R : Nat) (c : Nat) (hc : 2 < c) (hc2 : c < 256) (ao : Option Addr) (n cap : Nat) (w : World) (h : Rd R [c] false ao n cap w) :
    Calls Tryz.prog 56 #[.pointer (some ⟨R, 0, none⟩)] w fun e w' => e = .returned (.agg #[.int .u8 (c : Int), .int .i64 0, .string ⟨#[]⟩]) ∧ Gone R w' ∧ Skips R w w' := by
  have k1 : ((c : Int) == 1) = false := by rw [beq_eq_false_iff_ne]; omega
  have k2 : ((c : Int) == 2) = false := by rw [beq_eq_false_iff_ne]; omega
  have hfin : Val.fine ⟨c, 0, ⟨#[]⟩⟩ = false := by
    have e0 : (c == 0) = false := by rw [beq_eq_false_iff_ne]; omega
    have e1 : (c == 1) = false := by rw [beq_eq_false_iff_ne]; omega
    have e2 : (c == 2) = false := by rw [beq_eq_false_iff_ne]; omega
    simp [Val.fine, e0, e1, e2]
  obtain ⟨w0, hW⟩ : ∃ w0, w0 = w.alloc (.cells #[.int .u8 0, .int .i64 0, .string ⟨#[]⟩] 25) := ⟨_, rfl⟩
  obtain ⟨T, hT⟩ : ∃ T, T = w.heap.size := ⟨_, rfl⟩
  have HT0 : Hid (w0.heap[T]? = some (.cells #[.int .u8 0, .int .i64 0, .string ⟨#[]⟩] 25 (0, 0))) := Lib.hid (by rw [hW, hT]; exact heap_alloc_new w _)
  have H0 : Hid (Rd R [c] false ao n cap w0) := Lib.hid (by rw [hW]; exact h.kept (below_alloc w _))
  have HS0 : Hid (Skips R w w0) := Lib.hid (by rw [hW]; exact Skips.of (below_alloc w _))
  have hTR : T ≠ R := by have := h.lt; omega
  have hTw : w.heap.size ≤ T := by omega
  clear h
  go_enter Tryz.func56, Tryz.ntmps56
  go_wp2_with fail
  rw [← hW, ← hT]
  clear hW hT
  refine (next_some R c [] false ao n cap w0 H0.out).mono ?_
  rintro e w1 ⟨rfl, ⟨ao1, n1, c1, h1⟩, h2⟩
  have H1 := Lib.hid h1
  have HS1 := Lib.hid (HS0.out.trans h2)
  have HT1 := Lib.hid ((h2.block _ (lt_of_block HT0.out) hTR).trans HT0.out)
  clear h1 h2 HS0 HT0 H0
  go_wp2_with fail
  obtain ⟨X, hX⟩ : ∃ X, X = w1.heap.size := ⟨_, rfl⟩
  obtain ⟨w2, hw2⟩ : ∃ w2, w2 = w1.alloc (.cells #[.int .u8 (c : Int), .int .i64 0, .string ⟨#[]⟩] 25) := ⟨_, rfl⟩
  have HX2 : Hid (w2.heap[X]? = some (.cells #[.int .u8 (c : Int), .int .i64 0, .string ⟨#[]⟩] 25 (0, 0))) := Lib.hid (by rw [hw2, hX]; exact heap_alloc_new w1 _)
  have HB12 : Hid (Below w1.heap.size w1 w2) := Lib.hid (by rw [hw2]; exact below_alloc w1 _)
  have hXR : X ≠ R := by have := H1.out.lt; omega
  rw [← hw2, ← hX]
  clear hw2 hX
  have hcc := check_any c 0 ⟨#[]⟩ w2 hc2
  rw [hfin] at hcc
  refine hcc.mono ?_
  clear hcc hfin
  rintro e w3 ⟨rfl, hb⟩
  have HB13 := Lib.hid (below_next HB12.out hb)
  have HX3 := Lib.hid ((hb.block _ (lt_of_block HX2.out)).trans HX2.out)
  clear hb HX2 HB12
  have H3 := Lib.hid (H1.out.kept HB13.out)
  have HS3 := Lib.hid (HS1.out.trans (Skips.of HB13.out))
  have HT3 := Lib.hid ((HB13.out.block _ (lt_of_block HT1.out)).trans HT1.out)
  clear HB13 HS1 HT1 H1
  go_wp2_with fail
  refine (need_no R _ _ _ _ _ w3 H3.out).mono ?_
  rintro e w4 ⟨rfl, hg, hs⟩
  have HS4 := Lib.hid (HS3.out.trans hs)
  have HX4 := Lib.hid ((hs.block _ (lt_of_block HX3.out) hXR).trans HX3.out)
  have HT4 := Lib.hid ((hs.block _ (lt_of_block HT3.out) hTR).trans HT3.out)
  have HG := Lib.hid hg
  clear hg hs H3 HS3 HX3 HT3
  have x0 : w4.cell? ⟨X, 0, none⟩ = some (.int .u8 (c : Int)) := cell_of_block HX4.out 0
  have x1 : w4.cell? ⟨X, 1, none⟩ = some (.int .i64 0) := cell_of_block HX4.out 1
  have x2 : w4.cell? ⟨X, 2, none⟩ = some (.string ⟨#[]⟩) := cell_of_block HX4.out 2
  have t0 : w4.cell? ⟨T, 0, none⟩ = some (.int .u8 0) := cell_of_block HT4.out 0
  have t1 : w4.cell? ⟨T, 1, none⟩ = some (.int .i64 0) := cell_of_block HT4.out 1
  have t2 : w4.cell? ⟨T, 2, none⟩ = some (.string ⟨#[]⟩) := cell_of_block HT4.out 2
  have f0 : w4.frozen? ⟨T, 0, none⟩ = false := free_of_block HT4.out 0
  have f1 : w4.frozen? ⟨T, 1, none⟩ = false := free_of_block HT4.out 1
  have f2 : w4.frozen? ⟨T, 2, none⟩ = false := free_of_block HT4.out 2
  have zT := lt_of_block HT4.out
  go_wp2
  exact bodyPost_ret (v := .agg #[.int .u8 (c : Int), .int .i64 0, .string ⟨#[]⟩]) (by simp [results, go_sem, t0, t1, t2]) rfl ⟨rfl, ((HG.out.set hTR 0 _).set hTR 1 _).set hTR 2 _, ((HS4.out.new hTw 0 _).new hTw 1 _).new hTw 2 _⟩
set_option maxRecDepth 100000 in
set_option maxHeartbeats 4000000 in
theorem takeListV_zero (R : Nat) (l : List Nat) (ao : Option Addr) (n cap : Nat) (w : World) (h : Rd R l false ao n cap w) (hg : getL l = (0, 1, 0)) (hl : 0 < l.length) :
    Calls Tryz.prog 55 #[.pointer (some ⟨R, 0, none⟩), .int .i64 16, .func (.func 56) #[.pointer (some ⟨R, 0, none⟩)] #[]] w fun e w' => e = .returned (.slice none 0 0) ∧ (∃ ao' n' cap', Rd R (l.drop 1) false ao' n' cap' w') ∧ Skips R w w' := by
  have H := Lib.hid h
  clear h
  go_enter Tryz.func55, Tryz.ntmps55
  go_wp2_with fail
  refine (below17_one R l 0 ao n cap w H.out hg hl (by omega)).mono ?_
  rintro e w1 ⟨rfl, h1, h2⟩
  have H1 := Lib.hid h1
  have H2 := Lib.hid h2
  clear h1 h2
  go_wp2
  refine wp_loop_rounds 1 ?_
  rw [rounds_succ]
  go_wp2
  go_ret
  exact ⟨rfl, H1.out, H2.out⟩
set_option maxRecDepth 100000 in
set_option maxHeartbeats 4000000 in
theorem takeListV_bad (R : Nat) (l : List Nat) (c : Nat) (hc : 2 < c) (hc2 : c < 256) (ao : Option Addr) (n cap : Nat) (w : World) (h : Rd R l false ao n cap w) (hg : getL l = (1, 1, 0)) (hl : l.drop 1 = [c]) :
    Calls Tryz.prog 55 #[.pointer (some ⟨R, 0, none⟩), .int .i64 16, .func (.func 56) #[.pointer (some ⟨R, 0, none⟩)] #[]] w fun e w' => e = .returned (.slice none 0 0) ∧ Gone R w' ∧ Skips R w w' := by
  have H := Lib.hid h
  have hpos : 0 < l.length := by
    cases l with
    | nil => simp at hl
    | cons a r => simp
  clear h
  go_enter Tryz.func55, Tryz.ntmps55
  go_wp2_with fail
  refine (below17_one R l 1 ao n cap w H.out hg hpos (by omega)).mono ?_
  rintro e w1 ⟨rfl, ⟨ao1, n1, c1, h1⟩, h2⟩
  rw [hl] at h1
  have H1 := Lib.hid h1
  have H2 := Lib.hid h2
  clear h1 h2 hg hl hpos
  go_wp2_with fail
  refine wp_loop_rounds 2 ?_
  rw [rounds_succ]
  go_wp2_with fail
  refine (value_bad R c hc hc2 ao1 n1 c1 w1 H1.out).mono ?_
  rintro e w2 ⟨rfl, hG, hs⟩
  have HG := Lib.hid hG
  have HS := Lib.hid (H2.out.trans hs)
  clear hG hs H1 H2
  have HN : Hid ((w2.alloc (.cells #[.int .u8 (c : Int), .int .i64 0, .string ⟨#[]⟩] 25)).heap[w2.heap.size]? = some (.cells #[.int .u8 (c : Int), .int .i64 0, .string ⟨#[]⟩] 25 (0, 0))) := Lib.hid (heap_alloc_new w2 _)
  obtain ⟨i, hi, hz, hsz, hby⟩ := infoV
  go_wp2_with (at_builtin; refine wpList_append_own _ rfl (.tmp 14) (.tmp 17) 28 rfl 0 25 i (.agg #[.int .u8 0, .int .i64 0, .string ⟨#[]⟩]) 3 i.bytes Tryz.underlying28 hi hz hsz rfl rfl (by decide) (.slice none 0 0) 0 [] rfl (World.ownsRow_nil _ _ _ _) ⟨w2.heap.size, 0, none⟩ 1 1 [.int .u8 (c : Int), .int .i64 0, .string ⟨#[]⟩] rfl rfl (cells_three HN.out) (by intro u hu; simp at hu; rcases hu with rfl | rfl | rfl <;> rfl) (by unfold maxLen; omega) (by omega) (Nat.zero_le _) ?_)
  intro v3 w3 hown hg _
  have hb : Below (w2.alloc (.cells #[.int .u8 (c : Int), .int .i64 0, .string ⟨#[]⟩] 25)).heap.size (w2.alloc (.cells #[.int .u8 (c : Int), .int .i64 0, .string ⟨#[]⟩] 25)) w3 := (Below.refl _ _).grown hg (Nat.le_refl _) (fun k hk => by cases hk)
  have HG3 := Lib.hid ((HG.out.kept (below_alloc _ _)).kept hb)
  have HS3 := Lib.hid ((HS.out.trans (Skips.of (below_alloc _ _))).trans (Skips.of hb))
  clear hown hg hb HN HG HS hi hz hsz hby
  have s1 : w3.cell? ⟨R, 1, none⟩ = some (.bool true) := cell_of_block HG3.out 1
  go_wp2
  go_ret
  exact ⟨rfl, HG3.out, HS3.out⟩
set_option maxRecDepth 100000 in
set_option maxHeartbeats 4000000 in
theorem rget_bad (ao : Option Addr) (n cap : Nat) (l : List Nat) (w : World) (hr : Row8 w ao n cap l) (hc : (∃ c, 2 < c ∧ c < 256 ∧ getL l = (1, 1, 0) ∧ l.drop 1 = [c]) ∨ (getL l = (0, 1, 0) ∧ 1 < l.length)) :
    Calls Tryz.prog 24 #[.slice ao n cap] w fun e w' => e = .returned (.tuple #[.slice none 0 0, .int .i64 4]) ∧ Below w.heap.size w w' := by
  have hll := Lib.hid hr.len
  obtain ⟨R, hR⟩ : ∃ R, R = w.heap.size := ⟨_, rfl⟩
  obtain ⟨w0, hW⟩ : ∃ w0, w0 = w.alloc (.cells #[.slice ao n cap, .bool false] 129) := ⟨_, rfl⟩
  have H0 : Hid (Rd R l false ao n cap w0) := Lib.hid (by
    rw [hW, hR]
    refine ⟨heap_alloc_new w _, hr.alloc _, fun a ha => ?_⟩
    rcases Nat.eq_zero_or_pos n with h0 | h0
    · exfalso
      have hll := hr.len
      rcases hc with ⟨c, _, _, _, h4⟩ | ⟨_, h4⟩
      · have := congrArg List.length h4; simp at this; omega
      · omega
    · have := World.block_lt_of_cell? w _ (hr.cell a ha 0 h0)
      have e : (a.add 0).block = a.block := by unfold Addr.add; split <;> rfl
      rw [e] at this
      omega)
  have HB0 : Hid (Below w.heap.size w w0) := Lib.hid (by rw [hW]; exact below_alloc w _)
  have hRw : w.heap.size ≤ R := by omega
  clear hr
  have hta : Calls Tryz.prog 53 #[.slice ao n cap, .func (.func 54) #[] #[]] w fun e w' => e = .returned (.tuple #[.slice none 0 0, .int .i64 4]) ∧ Below w.heap.size w w' := by
    go_enter Tryz.func53, Tryz.ntmps53
    go_wp2_with fail
    rw [← hW, ← hR]
    clear hW hR
    rcases hc with ⟨c, hc, hc2, hg, hl⟩ | ⟨hg, hl⟩
    · have hG1 : Calls Tryz.prog 54 #[.pointer (some ⟨R, 0, none⟩)] w0 fun e w' => e = .returned (.slice none 0 0) ∧ Gone R w' ∧ Skips R w0 w' := by
        go_enter Tryz.func54, Tryz.ntmps54
        go_wp2_with fail
        refine (takeListV_bad R l c hc hc2 ao n cap w0 H0.out hg hl).mono ?_
        rintro e w1 ⟨rfl, h1, h2⟩
        have H1 := Lib.hid h1
        have H2 := Lib.hid h2
        clear h1 h2
        go_wp2
        go_ret
        exact ⟨rfl, H1.out, H2.out⟩
      refine hG1.mono ?_
      clear hG1
      rintro e w1 ⟨rfl, h1, h2⟩
      have HG := Lib.hid h1
      have HB1 := Lib.hid (HB0.out.trans (h2.below HB0.out.size hRw))
      clear h1 h2 hg hl hc hc2
      have s0 : w1.cell? ⟨R, 0, none⟩ = some (.slice none 0 0) := cell_of_block HG.out 0
      have s1 : w1.cell? ⟨R, 1, none⟩ = some (.bool true) := cell_of_block HG.out 1
      go_wp2_with fail
      refine (need_yes R w1).mono ?_
      rintro e w2 ⟨rfl, rfl⟩
      go_wp2
      go_ret2
      exact ⟨rfl, HB1.out⟩
    · have hpos : 0 < l.length := by omega
      have hG1 : Calls Tryz.prog 54 #[.pointer (some ⟨R, 0, none⟩)] w0 fun e w' => e = .returned (.slice none 0 0) ∧ (∃ ao' n' cap', Rd R (l.drop 1) false ao' n' cap' w') ∧ Skips R w0 w' := by
        go_enter Tryz.func54, Tryz.ntmps54
        go_wp2_with fail
        refine (takeListV_zero R l ao n cap w0 H0.out hg hpos).mono ?_
        rintro e w1 ⟨rfl, h1, h2⟩
        have H1 := Lib.hid h1
        have H2 := Lib.hid h2
        clear h1 h2
        go_wp2
        go_ret
        exact ⟨rfl, H1.out, H2.out⟩
      refine hG1.mono ?_
      clear hG1
      rintro e w1 ⟨rfl, ⟨a1, n1, c1, h1⟩, h2⟩
      have H1 := Lib.hid h1
      have HB1 := Lib.hid (HB0.out.trans (h2.below HB0.out.size hRw))
      have hn1 : ((n1 : Int) == 0) = false := by
        have := h1.row.len
        rw [beq_eq_false_iff_ne]
        simp at this
        omega
      clear h1 h2 hg hl hpos
      have s0 : w1.cell? ⟨R, 0, none⟩ = some (.slice a1 n1 c1) := cell_of_block H1.out.at_ 0
      go_wp2_with fail
      refine (need_no R _ _ _ _ _ w1 H1.out).mono ?_
      rintro e w2 ⟨rfl, hg, hs⟩
      have HB2 := Lib.hid (HB1.out.trans (hs.below HB1.out.size hRw))
      have s1 : w2.cell? ⟨R, 1, none⟩ = some (.bool true) := cell_of_block hg 1
      clear hg hs s0
      go_wp2
      go_ret2
      exact ⟨rfl, HB2.out⟩
  clear hc hW hR H0 HB0
  go_enter Tryz.func24, Tryz.ntmps24
  go_wp2_with fail
  refine hta.mono ?_
  clear hta
  rintro e w1 ⟨rfl, hb⟩
  have HB := Lib.hid hb
  clear hb
  go_wp2
  go_ret2
  exact ⟨rfl, HB.out⟩
end Go.Proofs.YtjjfmmimmfihgabGreatDoor
