/-
  WHAT IS PROVED: contracts of AND, OR, and of what is joined; Truth; NOT.
-/
import Derived.Test.YtjjfmmimmfihgaaDoorValE
namespace Go.Proofs.YtjjfmmimmfihgaaDoor
open Go.RowKit Go.Lib

set_option maxHeartbeats 1000000 in
theorem decides_any (S k : Nat) (i : Int) (s : ByteArray) (so : Bool) (w : World) (_hk : k < 256) (hS : w.cell? ⟨S, 0, none⟩ = some (.bool so)) :
    Calls Tryd.prog 53 #[.agg #[.int .u8 (k : Int), .int .i64 i, .string s], .pointer (some ⟨S, 0, none⟩)] w fun e w' => e = .returned (.bool (Val.decides so ⟨k, i, s⟩)) ∧ Below w.heap.size w w' := by
  have hSw : S < w.heap.size := World.block_lt_of_cell? w _ hS
  have hS1 := ((below_alloc w (.cells #[.int .u8 (k : Int), .int .i64 i, .string s] 25)).cell (p := ⟨S, 0, none⟩) hSw).trans hS
  by_cases h : k = 1
  · subst h
    by_cases hi : i = 0
    · subst hi
      cases so
      · go_enter Tryd.func53, Tryd.ntmps53
        go_wp2
        go_ret
        exact ⟨rfl, below_alloc _ _⟩
      · go_enter Tryd.func53, Tryd.ntmps53
        go_wp2
        go_ret
        exact ⟨rfl, below_alloc _ _⟩
    · have hi' : (i != 0) = true := by simpa using hi
      have hd : Val.decides so ⟨1, i, s⟩ = so := by simp [Val.decides, hi]
      rw [hd]
      clear hi hd
      cases so
      · go_enter Tryd.func53, Tryd.ntmps53
        go_wp2
        go_ret
        exact ⟨rfl, below_alloc _ _⟩
      · go_enter Tryd.func53, Tryd.ntmps53
        go_wp2
        go_ret
        exact ⟨rfl, below_alloc _ _⟩
  · have hk1 : ((k : Int) == 1) = false := by rw [beq_eq_false_iff_ne]; omega
    have hd : Val.decides so ⟨k, i, s⟩ = false := by simp [Val.decides, h]
    rw [hd]
    clear hd h
    go_enter Tryd.func53, Tryd.ntmps53
    go_wp2
    go_ret
    exact ⟨rfl, below_alloc _ _⟩

set_option maxRecDepth 100000 in
set_option maxHeartbeats 4000000 in
theorem decided_any (D S : Nat) (so : Bool) (k : Nat) (i : Int) (s : ByteArray) (l : Nat) (j : Int) (t : ByteArray) (w : World) (hk : k < 256) (hl : l < 256)
    (hD : w.cell? ⟨D, 0, none⟩ = some (.func (.func 53) #[] #[.pointer (some ⟨S, 0, none⟩)])) (hS : w.cell? ⟨S, 0, none⟩ = some (.bool so)) :
    Calls Tryd.prog 54 #[.agg #[.int .u8 (k : Int), .int .i64 i, .string s], .agg #[.int .u8 (l : Int), .int .i64 j, .string t], .pointer (some ⟨D, 0, none⟩), .pointer (some ⟨S, 0, none⟩)] w (Gives (Val.both so ⟨k, i, s⟩ ⟨l, j, t⟩) w) := by
  have hDw : D < w.heap.size := World.block_lt_of_cell? w _ hD
  have hSw : S < w.heap.size := World.block_lt_of_cell? w _ hS
  have tok1 : True := trivial
  by_cases ht : k = 2 ∨ l = 2
  · have hd2 : decide (k = 2 ∨ l = 2) = true := by simpa using ht
    have hr : Val.both so ⟨k, i, s⟩ ⟨l, j, t⟩ = (Val.nil, 11) := if_pos ht
    rw [hr]
    clear hr ht
    go_enter Tryd.func54, Tryd.ntmps54
    go_wp2_with (go_at_call 48; refine (anyText_any _ _ _ _ _ _ _ hk hl).mono ?_; rintro e w1 ⟨rfl, hb⟩; obtain ⟨hc, hf⟩ := bcell hb; obtain ⟨z0, z1, z2⟩ := three_size hb; have zD := Nat.lt_trans hDw z0; have zS := Nat.lt_trans hSw z0; have hD1 := ((below_three hb).cell (p := ⟨D, 0, none⟩) hDw).trans hD; have hS1 := ((below_three hb).cell (p := ⟨S, 0, none⟩) hSw).trans hS)
    exact bodyPost_ret (v := .tuple #[.agg #[.int .u8 0, .int .i64 0, .string ⟨#[]⟩], .int .i64 11]) (by simp [results, go_sem, hc]) rfl ⟨rfl, below_set3 (b := w.heap.size + 1 + 1) (below_three hb) (by omega) _ _ _⟩
  · have hd2 : decide (k = 2 ∨ l = 2) = false := by simpa using ht
    have hr : Val.both so ⟨k, i, s⟩ ⟨l, j, t⟩ = if Val.decides so ⟨k, i, s⟩ || Val.decides so ⟨l, j, t⟩ then (Val.yes so, 0) else if k = 0 ∨ l = 0 then (Val.nil, 0) else (Val.yes !so, 0) := if_neg ht
    rw [hr]
    clear hr ht
    by_cases ha : Val.decides so ⟨k, i, s⟩ = true
    · have hr : (if Val.decides so ⟨k, i, s⟩ || Val.decides so ⟨l, j, t⟩ then (Val.yes so, 0) else if k = 0 ∨ l = 0 then (Val.nil, 0) else (Val.yes !so, 0)) = (Val.yes so, 0) := if_pos (by rw [ha]; rfl)
      rw [hr]
      clear hr
      go_enter Tryd.func54, Tryd.ntmps54
      go_wp2_with (first | (go_at_call 48; refine (anyText_any _ _ _ _ _ _ _ hk hl).mono ?_; rintro e w1 ⟨rfl, hb⟩; obtain ⟨hc, hf⟩ := bcell hb; obtain ⟨z0, z1, z2⟩ := three_size hb; have zD := Nat.lt_trans hDw z0; have zS := Nat.lt_trans hSw z0; have hD1 := ((below_three hb).cell (p := ⟨D, 0, none⟩) hDw).trans hD; have hS1 := ((below_three hb).cell (p := ⟨S, 0, none⟩) hSw).trans hS) | (go_at_call 53; guard_hyp tok1; refine (decides_any S k i s so _ hk hS1).mono ?_; rw [ha]; rintro e w2 ⟨rfl, hb2⟩; obtain ⟨hc2, hf2⟩ := bcell hb2; have y0 := Nat.lt_of_lt_of_le z0 hb2.size; have y1 := Nat.lt_of_lt_of_le z1 hb2.size; have y2 := Nat.lt_of_lt_of_le z2 hb2.size; have yD := Nat.lt_of_lt_of_le zD hb2.size; have yS := Nat.lt_of_lt_of_le zS hb2.size; have hD2 := (hb2.cell (p := ⟨D, 0, none⟩) zD).trans hD1; have hS2 := (hb2.cell (p := ⟨S, 0, none⟩) zS).trans hS1; clear tok1) | (go_at_call 52; refine (truth_any _ _).mono ?_; rintro e w3 ⟨rfl, hb3⟩; obtain ⟨hc3, hf3⟩ := bcell hb3; have u2 := Nat.lt_of_lt_of_le y2 hb3.size))
      exact bodyPost_ret (v := .tuple #[.agg #[.int .u8 1, .int .i64 (bitI so), .string ⟨#[]⟩], .int .i64 0]) (by simp [results, go_sem, hc, z2, hc2, y2, hc3]) rfl ⟨rfl, below_set3 (b := w.heap.size + 1 + 1) (below_next (below_next (below_three hb) hb2) hb3) (by omega) _ _ _⟩
    · rw [Bool.not_eq_true] at ha
      by_cases hbb : Val.decides so ⟨l, j, t⟩ = true
      · have hr : (if Val.decides so ⟨k, i, s⟩ || Val.decides so ⟨l, j, t⟩ then (Val.yes so, 0) else if k = 0 ∨ l = 0 then (Val.nil, 0) else (Val.yes !so, 0)) = (Val.yes so, 0) := if_pos (by rw [hbb]; simp)
        rw [hr]
        clear hr
        go_enter Tryd.func54, Tryd.ntmps54
        go_wp2_with (first | (go_at_call 48; refine (anyText_any _ _ _ _ _ _ _ hk hl).mono ?_; rintro e w1 ⟨rfl, hb⟩; obtain ⟨hc, hf⟩ := bcell hb; obtain ⟨z0, z1, z2⟩ := three_size hb; have zD := Nat.lt_trans hDw z0; have zS := Nat.lt_trans hSw z0; have hD1 := ((below_three hb).cell (p := ⟨D, 0, none⟩) hDw).trans hD; have hS1 := ((below_three hb).cell (p := ⟨S, 0, none⟩) hSw).trans hS) | (go_at_call 53; guard_hyp tok1; refine (decides_any S k i s so _ hk hS1).mono ?_; rw [ha]; rintro e w2 ⟨rfl, hb2⟩; obtain ⟨hc2, hf2⟩ := bcell hb2; have y0 := Nat.lt_of_lt_of_le z0 hb2.size; have y1 := Nat.lt_of_lt_of_le z1 hb2.size; have y2 := Nat.lt_of_lt_of_le z2 hb2.size; have yD := Nat.lt_of_lt_of_le zD hb2.size; have yS := Nat.lt_of_lt_of_le zS hb2.size; have hD2 := (hb2.cell (p := ⟨D, 0, none⟩) zD).trans hD1; have hS2 := (hb2.cell (p := ⟨S, 0, none⟩) zS).trans hS1; clear tok1) | (go_at_call 53; refine (decides_any S l j t so _ hl hS2).mono ?_; rw [hbb]; rintro e w3 ⟨rfl, hb3⟩; obtain ⟨hc3, hf3⟩ := bcell hb3; have x0 := Nat.lt_of_lt_of_le y0 hb3.size; have x1 := Nat.lt_of_lt_of_le y1 hb3.size; have x2 := Nat.lt_of_lt_of_le y2 hb3.size; have xD := Nat.lt_of_lt_of_le yD hb3.size; have xS := Nat.lt_of_lt_of_le yS hb3.size; have hD3 := (hb3.cell (p := ⟨D, 0, none⟩) yD).trans hD2; have hS3 := (hb3.cell (p := ⟨S, 0, none⟩) yS).trans hS2) | (go_at_call 52; refine (truth_any _ _).mono ?_; rintro e w4 ⟨rfl, hb4⟩; obtain ⟨hc4, hf4⟩ := bcell hb4; have u2 := Nat.lt_of_lt_of_le x2 hb4.size))
        exact bodyPost_ret (v := .tuple #[.agg #[.int .u8 1, .int .i64 (bitI so), .string ⟨#[]⟩], .int .i64 0]) (by simp [results, go_sem, hc, z2, hc2, y2, hc3, x2, hc4]) rfl ⟨rfl, below_set3 (b := w.heap.size + 1 + 1) (below_next (below_next (below_next (below_three hb) hb2) hb3) hb4) (by omega) _ _ _⟩
      · rw [Bool.not_eq_true] at hbb
        have hr : (if Val.decides so ⟨k, i, s⟩ || Val.decides so ⟨l, j, t⟩ then (Val.yes so, 0) else if k = 0 ∨ l = 0 then (Val.nil, 0) else (Val.yes !so, 0)) = if k = 0 ∨ l = 0 then (Val.nil, 0) else (Val.yes !so, 0) := if_neg (by rw [ha, hbb]; simp)
        rw [hr]
        clear hr
        by_cases hn : k = 0 ∨ l = 0
        · have hd : decide (k = 0 ∨ l = 0) = true := by simpa using hn
          rw [if_pos hn]
          clear hn
          go_enter Tryd.func54, Tryd.ntmps54
          go_wp2_with (first | (go_at_call 48; refine (anyText_any _ _ _ _ _ _ _ hk hl).mono ?_; rintro e w1 ⟨rfl, hb⟩; obtain ⟨hc, hf⟩ := bcell hb; obtain ⟨z0, z1, z2⟩ := three_size hb; have zD := Nat.lt_trans hDw z0; have zS := Nat.lt_trans hSw z0; have hD1 := ((below_three hb).cell (p := ⟨D, 0, none⟩) hDw).trans hD; have hS1 := ((below_three hb).cell (p := ⟨S, 0, none⟩) hSw).trans hS) | (go_at_call 53; guard_hyp tok1; refine (decides_any S k i s so _ hk hS1).mono ?_; rw [ha]; rintro e w2 ⟨rfl, hb2⟩; obtain ⟨hc2, hf2⟩ := bcell hb2; have y0 := Nat.lt_of_lt_of_le z0 hb2.size; have y1 := Nat.lt_of_lt_of_le z1 hb2.size; have y2 := Nat.lt_of_lt_of_le z2 hb2.size; have yD := Nat.lt_of_lt_of_le zD hb2.size; have yS := Nat.lt_of_lt_of_le zS hb2.size; have hD2 := (hb2.cell (p := ⟨D, 0, none⟩) zD).trans hD1; have hS2 := (hb2.cell (p := ⟨S, 0, none⟩) zS).trans hS1; clear tok1) | (go_at_call 53; refine (decides_any S l j t so _ hl hS2).mono ?_; rw [hbb]; rintro e w3 ⟨rfl, hb3⟩; obtain ⟨hc3, hf3⟩ := bcell hb3; have x0 := Nat.lt_of_lt_of_le y0 hb3.size; have x1 := Nat.lt_of_lt_of_le y1 hb3.size; have x2 := Nat.lt_of_lt_of_le y2 hb3.size; have xD := Nat.lt_of_lt_of_le yD hb3.size; have xS := Nat.lt_of_lt_of_le yS hb3.size; have hD3 := (hb3.cell (p := ⟨D, 0, none⟩) yD).trans hD2; have hS3 := (hb3.cell (p := ⟨S, 0, none⟩) yS).trans hS2) | (go_at_call 47; refine (anyNull_any _ _ _ _ _ _ _ hk hl).mono ?_; rintro e w4 ⟨rfl, hb4⟩; obtain ⟨hc4, hf4⟩ := bcell hb4; have v0 := Nat.lt_of_lt_of_le x0 hb4.size; have v1 := Nat.lt_of_lt_of_le x1 hb4.size; have v2 := Nat.lt_of_lt_of_le x2 hb4.size; have vD := Nat.lt_of_lt_of_le xD hb4.size; have vS := Nat.lt_of_lt_of_le xS hb4.size; have hD4 := (hb4.cell (p := ⟨D, 0, none⟩) xD).trans hD3; have hS4 := (hb4.cell (p := ⟨S, 0, none⟩) xS).trans hS3))
          exact bodyPost_ret (v := .tuple #[.agg #[.int .u8 0, .int .i64 0, .string ⟨#[]⟩], .int .i64 0]) (by simp [results, go_sem, hc, z2, hc2, y2, hc3, x2, hc4]) rfl ⟨rfl, below_set3 (b := w.heap.size + 1 + 1) (below_next (below_next (below_next (below_three hb) hb2) hb3) hb4) (by omega) _ _ _⟩
        · have hd : decide (k = 0 ∨ l = 0) = false := by simpa using hn
          rw [if_neg hn]
          clear hn
          go_enter Tryd.func54, Tryd.ntmps54
          go_wp2_with (first | (go_at_call 48; refine (anyText_any _ _ _ _ _ _ _ hk hl).mono ?_; rintro e w1 ⟨rfl, hb⟩; obtain ⟨hc, hf⟩ := bcell hb; obtain ⟨z0, z1, z2⟩ := three_size hb; have zD := Nat.lt_trans hDw z0; have zS := Nat.lt_trans hSw z0; have hD1 := ((below_three hb).cell (p := ⟨D, 0, none⟩) hDw).trans hD; have hS1 := ((below_three hb).cell (p := ⟨S, 0, none⟩) hSw).trans hS) | (go_at_call 53; guard_hyp tok1; refine (decides_any S k i s so _ hk hS1).mono ?_; rw [ha]; rintro e w2 ⟨rfl, hb2⟩; obtain ⟨hc2, hf2⟩ := bcell hb2; have y0 := Nat.lt_of_lt_of_le z0 hb2.size; have y1 := Nat.lt_of_lt_of_le z1 hb2.size; have y2 := Nat.lt_of_lt_of_le z2 hb2.size; have yD := Nat.lt_of_lt_of_le zD hb2.size; have yS := Nat.lt_of_lt_of_le zS hb2.size; have hD2 := (hb2.cell (p := ⟨D, 0, none⟩) zD).trans hD1; have hS2 := (hb2.cell (p := ⟨S, 0, none⟩) zS).trans hS1; clear tok1) | (go_at_call 53; refine (decides_any S l j t so _ hl hS2).mono ?_; rw [hbb]; rintro e w3 ⟨rfl, hb3⟩; obtain ⟨hc3, hf3⟩ := bcell hb3; have x0 := Nat.lt_of_lt_of_le y0 hb3.size; have x1 := Nat.lt_of_lt_of_le y1 hb3.size; have x2 := Nat.lt_of_lt_of_le y2 hb3.size; have xD := Nat.lt_of_lt_of_le yD hb3.size; have xS := Nat.lt_of_lt_of_le yS hb3.size; have hD3 := (hb3.cell (p := ⟨D, 0, none⟩) yD).trans hD2; have hS3 := (hb3.cell (p := ⟨S, 0, none⟩) yS).trans hS2) | (go_at_call 47; refine (anyNull_any _ _ _ _ _ _ _ hk hl).mono ?_; rintro e w4 ⟨rfl, hb4⟩; obtain ⟨hc4, hf4⟩ := bcell hb4; have v0 := Nat.lt_of_lt_of_le x0 hb4.size; have v1 := Nat.lt_of_lt_of_le x1 hb4.size; have v2 := Nat.lt_of_lt_of_le x2 hb4.size; have vD := Nat.lt_of_lt_of_le xD hb4.size; have vS := Nat.lt_of_lt_of_le xS hb4.size; have hD4 := (hb4.cell (p := ⟨D, 0, none⟩) xD).trans hD3; have hS4 := (hb4.cell (p := ⟨S, 0, none⟩) xS).trans hS3) | (go_at_call 52; refine (truth_any _ _).mono ?_; rintro e w5 ⟨rfl, hb5⟩; obtain ⟨hc5, hf5⟩ := bcell hb5; have u2 := Nat.lt_of_lt_of_le v2 hb5.size))
          exact bodyPost_ret (v := .tuple #[.agg #[.int .u8 1, .int .i64 (bitI !so), .string ⟨#[]⟩], .int .i64 0]) (by simp [results, go_sem, hc, z2, hc2, y2, hc3, x2, hc4, v2, hc5]) rfl ⟨rfl, below_set3 (b := w.heap.size + 1 + 1) (below_next (below_next (below_next (below_next (below_three hb) hb2) hb3) hb4) hb5) (by omega) _ _ _⟩

end Go.Proofs.YtjjfmmimmfihgaaDoor