/-
  WHAT IS PROVED: the document's own Two: refused, and of nothing. the document's own Two: the operator 17. the document's own Two: the operator 18.
-/
import Derived.Test.YtjjfmmimmfihgaaDoorRefOne
namespace Go.Proofs.YtjjfmmimmfihgaaDoor
section
open Go.RowKit Go.Lib
set_option linter.unusedVariables false

theorem gives_of {r : Val × Nat} {w w' : World} {e : Ending} (he : e = .returned (.tuple #[.agg #[.int .u8 (r.1.k : Int), .int .i64 r.1.i, .string r.1.s], .int .i64 (r.2 : Int)])) (hb : Below w.heap.size w w') : Gives r w e w' := ⟨he, hb⟩
theorem rplain_any (k : Nat) (i : Int) (s : ByteArray) (x : ByteArray) (i0 : -9223372036854775808 ≤ i) (i1 : i ≤ 9223372036854775807) (w : World) (h : Val.plain ⟨k, i, s⟩ = x) :
    Calls Tryd.prog 36 #[.agg #[.int .u8 (k : Int), .int .i64 i, .string s]] w fun e w' => e = .returned (.string x) ∧ Below w.heap.size w w' := by
  subst h
  by_cases hk : k = 1
  · subst hk
    go_enter Tryd.func36, Tryd.ntmps36
    go_wp2_with fail
    refine (digits_any i i0 i1 _).mono ?_
    rintro e w1 ⟨rfl, rfl⟩
    go_wp2_with fail
    go_ret
    exact ⟨rfl, below_alloc _ _⟩
  · have h1 : (((k : Nat) : Int) == 1) = false := by rw [beq_eq_false_iff_ne]; omega
    have hp : Val.plain ⟨k, i, s⟩ = s := if_neg hk
    rw [hp]
    go_enter Tryd.func36, Tryd.ntmps36
    go_wp2_with fail
    go_ret
    exact ⟨rfl, below_alloc _ _⟩
theorem rstring_any (x : ByteArray) (w : World) :
    Calls Tryd.prog 37 #[.string x] w fun e w' => e = .returned (.agg #[.int .u8 2, .int .i64 0, .string x]) ∧ Below w.heap.size w w' := by
  go_enter Tryd.func37, Tryd.ntmps37
  go_wp2
  exact bodyPost_ret (v := .agg #[.int .u8 2, .int .i64 0, .string x]) (by simp [results, go_sem]) rfl ⟨rfl, below_alloc _ _⟩
set_option maxRecDepth 100000 in
set_option maxHeartbeats 4000000 in
theorem rtwo_small (op : Nat) (k : Nat) (i : Int) (s : ByteArray) (l : Nat) (j : Int) (t : ByteArray) (hk : k < 256) (hl : l < 256) (w : World) (o5 : decide ((op : Int) < 5) = true)   (hr : Val.two op ⟨k, i, s⟩ ⟨l, j, t⟩ = (⟨0, 0, ⟨#[]⟩⟩, 1)) :
    Calls Tryd.prog 9 #[.int .u8 (op : Int), .agg #[.int .u8 (k : Int), .int .i64 i, .string s], .agg #[.int .u8 (l : Int), .int .i64 j, .string t]] w (Gives (Val.two op ⟨k, i, s⟩ ⟨l, j, t⟩) w) := by
  rw [hr]
  clear hr
  have H0 := Lib.hid (base3 w k i s l j t)
  go_enter Tryd.func9, Tryd.ntmps9
  go_wp2_with fail
  clear H0
  exact bodyPost_ret (v := .tuple #[.agg #[.int .u8 0, .int .i64 0, .string ⟨#[]⟩], .int .i64 1]) (by simp [results, go_sem]) rfl (gives_of rfl (((below_alloc w _).alloc (by simp) _).alloc (by simp; omega) _))
set_option maxRecDepth 100000 in
set_option maxHeartbeats 4000000 in
theorem rtwo_big (op : Nat) (k : Nat) (i : Int) (s : ByteArray) (l : Nat) (j : Int) (t : ByteArray) (hk : k < 256) (hl : l < 256) (w : World) (o5 : decide ((op : Int) < 5) = false) (o18 : decide ((18 : Int) < (op : Int)) = true)   (hr : Val.two op ⟨k, i, s⟩ ⟨l, j, t⟩ = (⟨0, 0, ⟨#[]⟩⟩, 1)) :
    Calls Tryd.prog 9 #[.int .u8 (op : Int), .agg #[.int .u8 (k : Int), .int .i64 i, .string s], .agg #[.int .u8 (l : Int), .int .i64 j, .string t]] w (Gives (Val.two op ⟨k, i, s⟩ ⟨l, j, t⟩) w) := by
  rw [hr]
  clear hr
  have H0 := Lib.hid (base3 w k i s l j t)
  go_enter Tryd.func9, Tryd.ntmps9
  go_wp2_with fail
  clear H0
  exact bodyPost_ret (v := .tuple #[.agg #[.int .u8 0, .int .i64 0, .string ⟨#[]⟩], .int .i64 1]) (by simp [results, go_sem]) rfl (gives_of rfl (((below_alloc w _).alloc (by simp) _).alloc (by simp; omega) _))
set_option maxRecDepth 100000 in
set_option maxHeartbeats 4000000 in
theorem rtwo_nota (op : Nat) (k : Nat) (i : Int) (s : ByteArray) (l : Nat) (j : Int) (t : ByteArray) (hk : k < 256) (hl : l < 256) (w : World) (o5 : decide ((op : Int) < 5) = false) (o18 : decide ((18 : Int) < (op : Int)) = false)  (hfa : Val.fine ⟨k, i, s⟩ = false) (hr : Val.two op ⟨k, i, s⟩ ⟨l, j, t⟩ = (⟨0, 0, ⟨#[]⟩⟩, 1)) :
    Calls Tryd.prog 9 #[.int .u8 (op : Int), .agg #[.int .u8 (k : Int), .int .i64 i, .string s], .agg #[.int .u8 (l : Int), .int .i64 j, .string t]] w (Gives (Val.two op ⟨k, i, s⟩ ⟨l, j, t⟩) w) := by
  rw [hr]
  clear hr
  have H0 := Lib.hid (base3 w k i s l j t)
  go_enter Tryd.func9, Tryd.ntmps9
  go_wp2_with fail
  generalize hW : World.alloc (World.alloc (World.alloc w _) _) _ = v0 at H0 ⊢
  clear hW
  refine (rcheck_any k i s _ hk).mono ?_
  rw [hfa]
  rintro e v1 ⟨rfl, hb⟩
  have H1 := Lib.hid (H0.out.kept hb)
  clear hb H0
  obtain ⟨s0, s1, s2, s3, s4, s5⟩ := H1.out.s (fun _ hx => hx)
  obtain ⟨⟨r0, r1, r2⟩, ⟨f0, f1, f2⟩, y2⟩ := H1.out.r (fun _ hx => hx)
  go_wp2_with fail
  exact bodyPost_ret (v := .tuple #[.agg #[.int .u8 0, .int .i64 0, .string ⟨#[]⟩], .int .i64 1]) (by simp [results, go_sem, r0, r1, r2]) rfl (gives_of rfl (below_set3 (b := w.heap.size + 1 + 1) H1.out.below (by omega) _ _ _))
set_option maxRecDepth 100000 in
set_option maxHeartbeats 4000000 in
theorem rtwo_notb (op : Nat) (k : Nat) (i : Int) (s : ByteArray) (l : Nat) (j : Int) (t : ByteArray) (hk : k < 256) (hl : l < 256) (w : World) (o5 : decide ((op : Int) < 5) = false) (o18 : decide ((18 : Int) < (op : Int)) = false)  (hfa : Val.fine ⟨k, i, s⟩ = true) (hfb : Val.fine ⟨l, j, t⟩ = false) (hr : Val.two op ⟨k, i, s⟩ ⟨l, j, t⟩ = (⟨0, 0, ⟨#[]⟩⟩, 1)) :
    Calls Tryd.prog 9 #[.int .u8 (op : Int), .agg #[.int .u8 (k : Int), .int .i64 i, .string s], .agg #[.int .u8 (l : Int), .int .i64 j, .string t]] w (Gives (Val.two op ⟨k, i, s⟩ ⟨l, j, t⟩) w) := by
  rw [hr]
  clear hr
  have H0 := Lib.hid (base3 w k i s l j t)
  go_enter Tryd.func9, Tryd.ntmps9
  go_wp2_with fail
  generalize hW : World.alloc (World.alloc (World.alloc w _) _) _ = v0 at H0 ⊢
  clear hW
  refine (rcheck_any k i s _ hk).mono ?_
  rw [hfa]
  rintro e v1 ⟨rfl, hb⟩
  have H1 := Lib.hid (H0.out.kept hb)
  clear hb H0
  obtain ⟨s0, s1, s2, s3, s4, s5⟩ := H1.out.s (fun _ hx => hx)
  obtain ⟨⟨r0, r1, r2⟩, ⟨f0, f1, f2⟩, y2⟩ := H1.out.r (fun _ hx => hx)
  go_wp2_with fail
  refine (rcheck_any l j t _ hl).mono ?_
  rw [hfb]
  rintro e v2 ⟨rfl, hb⟩
  have H2 := Lib.hid (H1.out.kept hb)
  clear hb H1
  clear s0 s1 s2 s3 s4 s5 r0 r1 r2 f0 f1 f2 y2
  obtain ⟨s0, s1, s2, s3, s4, s5⟩ := H2.out.s (fun _ hx => hx)
  obtain ⟨⟨r0, r1, r2⟩, ⟨f0, f1, f2⟩, y2⟩ := H2.out.r (fun _ hx => hx)
  go_wp2_with fail
  exact bodyPost_ret (v := .tuple #[.agg #[.int .u8 0, .int .i64 0, .string ⟨#[]⟩], .int .i64 1]) (by simp [results, go_sem, r0, r1, r2]) rfl (gives_of rfl (below_set3 (b := w.heap.size + 1 + 1) H2.out.below (by omega) _ _ _))
set_option maxRecDepth 100000 in
set_option maxHeartbeats 4000000 in
theorem rtwo_nil_a (op : Nat) (k : Nat) (i : Int) (s : ByteArray) (l : Nat) (j : Int) (t : ByteArray) (hk : k < 256) (hl : l < 256) (w : World) (o5 : decide ((op : Int) < 5) = false) (o18 : decide ((18 : Int) < (op : Int)) = false) (o17 : ((op : Int) == 17) = false) (o18b : ((op : Int) == 18) = false) (A0 : (((k : Nat) : Int) == 0) = true) (A1 : (((k : Nat) : Int) == 1) = false) (A2 : (((k : Nat) : Int) == 2) = false)  (hfa : Val.fine ⟨k, i, s⟩ = true) (hfb : Val.fine ⟨l, j, t⟩ = true) (hr : Val.two op ⟨k, i, s⟩ ⟨l, j, t⟩ = (⟨0, 0, ⟨#[]⟩⟩, 0)) :
    Calls Tryd.prog 9 #[.int .u8 (op : Int), .agg #[.int .u8 (k : Int), .int .i64 i, .string s], .agg #[.int .u8 (l : Int), .int .i64 j, .string t]] w (Gives (Val.two op ⟨k, i, s⟩ ⟨l, j, t⟩) w) := by
  rw [hr]
  clear hr
  have H0 := Lib.hid (base3 w k i s l j t)
  go_enter Tryd.func9, Tryd.ntmps9
  go_wp2_with fail
  generalize hW : World.alloc (World.alloc (World.alloc w _) _) _ = v0 at H0 ⊢
  clear hW
  refine (rcheck_any k i s _ hk).mono ?_
  rw [hfa]
  rintro e v1 ⟨rfl, hb⟩
  have H1 := Lib.hid (H0.out.kept hb)
  clear hb H0
  obtain ⟨s0, s1, s2, s3, s4, s5⟩ := H1.out.s (fun _ hx => hx)
  obtain ⟨⟨r0, r1, r2⟩, ⟨f0, f1, f2⟩, y2⟩ := H1.out.r (fun _ hx => hx)
  go_wp2_with fail
  refine (rcheck_any l j t _ hl).mono ?_
  rw [hfb]
  rintro e v2 ⟨rfl, hb⟩
  have H2 := Lib.hid (H1.out.kept hb)
  clear hb H1
  clear s0 s1 s2 s3 s4 s5 r0 r1 r2 f0 f1 f2 y2
  obtain ⟨s0, s1, s2, s3, s4, s5⟩ := H2.out.s (fun _ hx => hx)
  obtain ⟨⟨r0, r1, r2⟩, ⟨f0, f1, f2⟩, y2⟩ := H2.out.r (fun _ hx => hx)
  go_wp2_with fail
  exact bodyPost_ret (v := .tuple #[.agg #[.int .u8 0, .int .i64 0, .string ⟨#[]⟩], .int .i64 0]) (by simp [results, go_sem, r0, r1, r2]) rfl (gives_of rfl (below_set3 (b := w.heap.size + 1 + 1) H2.out.below (by omega) _ _ _))
set_option maxRecDepth 100000 in
set_option maxHeartbeats 4000000 in
theorem rtwo_nil_b1 (op : Nat) (k : Nat) (i : Int) (s : ByteArray) (l : Nat) (j : Int) (t : ByteArray) (hk : k < 256) (hl : l < 256) (w : World) (o5 : decide ((op : Int) < 5) = false) (o18 : decide ((18 : Int) < (op : Int)) = false) (o17 : ((op : Int) == 17) = false) (o18b : ((op : Int) == 18) = false) (A0 : (((k : Nat) : Int) == 0) = false) (A1 : (((k : Nat) : Int) == 1) = true) (A2 : (((k : Nat) : Int) == 2) = false) (B0 : (((l : Nat) : Int) == 0) = true) (B1 : (((l : Nat) : Int) == 1) = false) (B2 : (((l : Nat) : Int) == 2) = false)  (hfa : Val.fine ⟨k, i, s⟩ = true) (hfb : Val.fine ⟨l, j, t⟩ = true) (hr : Val.two op ⟨k, i, s⟩ ⟨l, j, t⟩ = (⟨0, 0, ⟨#[]⟩⟩, 0)) :
    Calls Tryd.prog 9 #[.int .u8 (op : Int), .agg #[.int .u8 (k : Int), .int .i64 i, .string s], .agg #[.int .u8 (l : Int), .int .i64 j, .string t]] w (Gives (Val.two op ⟨k, i, s⟩ ⟨l, j, t⟩) w) := by
  rw [hr]
  clear hr
  have H0 := Lib.hid (base3 w k i s l j t)
  go_enter Tryd.func9, Tryd.ntmps9
  go_wp2_with fail
  generalize hW : World.alloc (World.alloc (World.alloc w _) _) _ = v0 at H0 ⊢
  clear hW
  refine (rcheck_any k i s _ hk).mono ?_
  rw [hfa]
  rintro e v1 ⟨rfl, hb⟩
  have H1 := Lib.hid (H0.out.kept hb)
  clear hb H0
  obtain ⟨s0, s1, s2, s3, s4, s5⟩ := H1.out.s (fun _ hx => hx)
  obtain ⟨⟨r0, r1, r2⟩, ⟨f0, f1, f2⟩, y2⟩ := H1.out.r (fun _ hx => hx)
  go_wp2_with fail
  refine (rcheck_any l j t _ hl).mono ?_
  rw [hfb]
  rintro e v2 ⟨rfl, hb⟩
  have H2 := Lib.hid (H1.out.kept hb)
  clear hb H1
  clear s0 s1 s2 s3 s4 s5 r0 r1 r2 f0 f1 f2 y2
  obtain ⟨s0, s1, s2, s3, s4, s5⟩ := H2.out.s (fun _ hx => hx)
  obtain ⟨⟨r0, r1, r2⟩, ⟨f0, f1, f2⟩, y2⟩ := H2.out.r (fun _ hx => hx)
  go_wp2_with fail
  exact bodyPost_ret (v := .tuple #[.agg #[.int .u8 0, .int .i64 0, .string ⟨#[]⟩], .int .i64 0]) (by simp [results, go_sem, r0, r1, r2]) rfl (gives_of rfl (below_set3 (b := w.heap.size + 1 + 1) H2.out.below (by omega) _ _ _))
set_option maxRecDepth 100000 in
set_option maxHeartbeats 4000000 in
theorem rtwo_nil_b2 (op : Nat) (k : Nat) (i : Int) (s : ByteArray) (l : Nat) (j : Int) (t : ByteArray) (hk : k < 256) (hl : l < 256) (w : World) (o5 : decide ((op : Int) < 5) = false) (o18 : decide ((18 : Int) < (op : Int)) = false) (o17 : ((op : Int) == 17) = false) (o18b : ((op : Int) == 18) = false) (A0 : (((k : Nat) : Int) == 0) = false) (A1 : (((k : Nat) : Int) == 1) = false) (A2 : (((k : Nat) : Int) == 2) = true) (B0 : (((l : Nat) : Int) == 0) = true) (B1 : (((l : Nat) : Int) == 1) = false) (B2 : (((l : Nat) : Int) == 2) = false)  (hfa : Val.fine ⟨k, i, s⟩ = true) (hfb : Val.fine ⟨l, j, t⟩ = true) (hr : Val.two op ⟨k, i, s⟩ ⟨l, j, t⟩ = (⟨0, 0, ⟨#[]⟩⟩, 0)) :
    Calls Tryd.prog 9 #[.int .u8 (op : Int), .agg #[.int .u8 (k : Int), .int .i64 i, .string s], .agg #[.int .u8 (l : Int), .int .i64 j, .string t]] w (Gives (Val.two op ⟨k, i, s⟩ ⟨l, j, t⟩) w) := by
  rw [hr]
  clear hr
  have H0 := Lib.hid (base3 w k i s l j t)
  go_enter Tryd.func9, Tryd.ntmps9
  go_wp2_with fail
  generalize hW : World.alloc (World.alloc (World.alloc w _) _) _ = v0 at H0 ⊢
  clear hW
  refine (rcheck_any k i s _ hk).mono ?_
  rw [hfa]
  rintro e v1 ⟨rfl, hb⟩
  have H1 := Lib.hid (H0.out.kept hb)
  clear hb H0
  obtain ⟨s0, s1, s2, s3, s4, s5⟩ := H1.out.s (fun _ hx => hx)
  obtain ⟨⟨r0, r1, r2⟩, ⟨f0, f1, f2⟩, y2⟩ := H1.out.r (fun _ hx => hx)
  go_wp2_with fail
  refine (rcheck_any l j t _ hl).mono ?_
  rw [hfb]
  rintro e v2 ⟨rfl, hb⟩
  have H2 := Lib.hid (H1.out.kept hb)
  clear hb H1
  clear s0 s1 s2 s3 s4 s5 r0 r1 r2 f0 f1 f2 y2
  obtain ⟨s0, s1, s2, s3, s4, s5⟩ := H2.out.s (fun _ hx => hx)
  obtain ⟨⟨r0, r1, r2⟩, ⟨f0, f1, f2⟩, y2⟩ := H2.out.r (fun _ hx => hx)
  go_wp2_with fail
  exact bodyPost_ret (v := .tuple #[.agg #[.int .u8 0, .int .i64 0, .string ⟨#[]⟩], .int .i64 0]) (by simp [results, go_sem, r0, r1, r2]) rfl (gives_of rfl (below_set3 (b := w.heap.size + 1 + 1) H2.out.below (by omega) _ _ _))
end
section
open Go.RowKit Go.Lib
set_option linter.unusedVariables false

set_option maxRecDepth 100000 in
set_option maxHeartbeats 4000000 in
theorem rtwo17_t (k : Nat) (i : Int) (s : ByteArray) (l : Nat) (j : Int) (t : ByteArray) (hk : k < 256) (hl : l < 256) (w : World) (A0 : (((k : Nat) : Int) == 0) = false) (A1 : (((k : Nat) : Int) == 1) = false) (A2 : (((k : Nat) : Int) == 2) = true)  (hfa : Val.fine ⟨k, i, s⟩ = true) (hfb : Val.fine ⟨l, j, t⟩ = true) (hr : Val.two 17 ⟨k, i, s⟩ ⟨l, j, t⟩ = (⟨0, 0, ⟨#[]⟩⟩, 11)) :
    Calls Tryd.prog 9 #[.int .u8 17, .agg #[.int .u8 (k : Int), .int .i64 i, .string s], .agg #[.int .u8 (l : Int), .int .i64 j, .string t]] w (Gives (Val.two 17 ⟨k, i, s⟩ ⟨l, j, t⟩) w) := by
  rw [hr]
  clear hr
  have H0 := Lib.hid (base3 w k i s l j t)
  go_enter Tryd.func9, Tryd.ntmps9
  go_wp2_with fail
  generalize hW : World.alloc (World.alloc (World.alloc w _) _) _ = v0 at H0 ⊢
  clear hW
  refine (rcheck_any k i s _ hk).mono ?_
  rw [hfa]
  rintro e v1 ⟨rfl, hb⟩
  have H1 := Lib.hid (H0.out.kept hb)
  clear hb H0
  obtain ⟨s0, s1, s2, s3, s4, s5⟩ := H1.out.s (fun _ hx => hx)
  obtain ⟨⟨r0, r1, r2⟩, ⟨f0, f1, f2⟩, y2⟩ := H1.out.r (fun _ hx => hx)
  go_wp2_with fail
  refine (rcheck_any l j t _ hl).mono ?_
  rw [hfb]
  rintro e v2 ⟨rfl, hb⟩
  have H2 := Lib.hid (H1.out.kept hb)
  clear hb H1
  clear s0 s1 s2 s3 s4 s5 r0 r1 r2 f0 f1 f2 y2
  obtain ⟨s0, s1, s2, s3, s4, s5⟩ := H2.out.s (fun _ hx => hx)
  obtain ⟨⟨r0, r1, r2⟩, ⟨f0, f1, f2⟩, y2⟩ := H2.out.r (fun _ hx => hx)
  go_wp2_with fail
  exact bodyPost_ret (v := .tuple #[.agg #[.int .u8 0, .int .i64 0, .string ⟨#[]⟩], .int .i64 11]) (by simp [results, go_sem, r0, r1, r2]) rfl (gives_of rfl (below_set3 (b := w.heap.size + 1 + 1) H2.out.below (by omega) _ _ _))
set_option maxRecDepth 100000 in
set_option maxHeartbeats 4000000 in
theorem rtwo17_nt (k : Nat) (i : Int) (s : ByteArray) (l : Nat) (j : Int) (t : ByteArray) (hk : k < 256) (hl : l < 256) (w : World) (A0 : (((k : Nat) : Int) == 0) = true) (A1 : (((k : Nat) : Int) == 1) = false) (A2 : (((k : Nat) : Int) == 2) = false) (B0 : (((l : Nat) : Int) == 0) = false) (B1 : (((l : Nat) : Int) == 1) = false) (B2 : (((l : Nat) : Int) == 2) = true)  (hfa : Val.fine ⟨k, i, s⟩ = true) (hfb : Val.fine ⟨l, j, t⟩ = true) (hr : Val.two 17 ⟨k, i, s⟩ ⟨l, j, t⟩ = (⟨0, 0, ⟨#[]⟩⟩, 11)) :
    Calls Tryd.prog 9 #[.int .u8 17, .agg #[.int .u8 (k : Int), .int .i64 i, .string s], .agg #[.int .u8 (l : Int), .int .i64 j, .string t]] w (Gives (Val.two 17 ⟨k, i, s⟩ ⟨l, j, t⟩) w) := by
  rw [hr]
  clear hr
  have H0 := Lib.hid (base3 w k i s l j t)
  go_enter Tryd.func9, Tryd.ntmps9
  go_wp2_with fail
  generalize hW : World.alloc (World.alloc (World.alloc w _) _) _ = v0 at H0 ⊢
  clear hW
  refine (rcheck_any k i s _ hk).mono ?_
  rw [hfa]
  rintro e v1 ⟨rfl, hb⟩
  have H1 := Lib.hid (H0.out.kept hb)
  clear hb H0
  obtain ⟨s0, s1, s2, s3, s4, s5⟩ := H1.out.s (fun _ hx => hx)
  obtain ⟨⟨r0, r1, r2⟩, ⟨f0, f1, f2⟩, y2⟩ := H1.out.r (fun _ hx => hx)
  go_wp2_with fail
  refine (rcheck_any l j t _ hl).mono ?_
  rw [hfb]
  rintro e v2 ⟨rfl, hb⟩
  have H2 := Lib.hid (H1.out.kept hb)
  clear hb H1
  clear s0 s1 s2 s3 s4 s5 r0 r1 r2 f0 f1 f2 y2
  obtain ⟨s0, s1, s2, s3, s4, s5⟩ := H2.out.s (fun _ hx => hx)
  obtain ⟨⟨r0, r1, r2⟩, ⟨f0, f1, f2⟩, y2⟩ := H2.out.r (fun _ hx => hx)
  go_wp2_with fail
  exact bodyPost_ret (v := .tuple #[.agg #[.int .u8 0, .int .i64 0, .string ⟨#[]⟩], .int .i64 11]) (by simp [results, go_sem, r0, r1, r2]) rfl (gives_of rfl (below_set3 (b := w.heap.size + 1 + 1) H2.out.below (by omega) _ _ _))
set_option maxRecDepth 100000 in
set_option maxHeartbeats 4000000 in
theorem rtwo17_mt (k : Nat) (i : Int) (s : ByteArray) (l : Nat) (j : Int) (t : ByteArray) (hk : k < 256) (hl : l < 256) (w : World) (A0 : (((k : Nat) : Int) == 0) = false) (A1 : (((k : Nat) : Int) == 1) = true) (A2 : (((k : Nat) : Int) == 2) = false) (B0 : (((l : Nat) : Int) == 0) = false) (B1 : (((l : Nat) : Int) == 1) = false) (B2 : (((l : Nat) : Int) == 2) = true)  (hfa : Val.fine ⟨k, i, s⟩ = true) (hfb : Val.fine ⟨l, j, t⟩ = true) (hr : Val.two 17 ⟨k, i, s⟩ ⟨l, j, t⟩ = (⟨0, 0, ⟨#[]⟩⟩, 11)) :
    Calls Tryd.prog 9 #[.int .u8 17, .agg #[.int .u8 (k : Int), .int .i64 i, .string s], .agg #[.int .u8 (l : Int), .int .i64 j, .string t]] w (Gives (Val.two 17 ⟨k, i, s⟩ ⟨l, j, t⟩) w) := by
  rw [hr]
  clear hr
  have H0 := Lib.hid (base3 w k i s l j t)
  go_enter Tryd.func9, Tryd.ntmps9
  go_wp2_with fail
  generalize hW : World.alloc (World.alloc (World.alloc w _) _) _ = v0 at H0 ⊢
  clear hW
  refine (rcheck_any k i s _ hk).mono ?_
  rw [hfa]
  rintro e v1 ⟨rfl, hb⟩
  have H1 := Lib.hid (H0.out.kept hb)
  clear hb H0
  obtain ⟨s0, s1, s2, s3, s4, s5⟩ := H1.out.s (fun _ hx => hx)
  obtain ⟨⟨r0, r1, r2⟩, ⟨f0, f1, f2⟩, y2⟩ := H1.out.r (fun _ hx => hx)
  go_wp2_with fail
  refine (rcheck_any l j t _ hl).mono ?_
  rw [hfb]
  rintro e v2 ⟨rfl, hb⟩
  have H2 := Lib.hid (H1.out.kept hb)
  clear hb H1
  clear s0 s1 s2 s3 s4 s5 r0 r1 r2 f0 f1 f2 y2
  obtain ⟨s0, s1, s2, s3, s4, s5⟩ := H2.out.s (fun _ hx => hx)
  obtain ⟨⟨r0, r1, r2⟩, ⟨f0, f1, f2⟩, y2⟩ := H2.out.r (fun _ hx => hx)
  go_wp2_with fail
  exact bodyPost_ret (v := .tuple #[.agg #[.int .u8 0, .int .i64 0, .string ⟨#[]⟩], .int .i64 11]) (by simp [results, go_sem, r0, r1, r2]) rfl (gives_of rfl (below_set3 (b := w.heap.size + 1 + 1) H2.out.below (by omega) _ _ _))
set_option maxRecDepth 100000 in
set_option maxHeartbeats 4000000 in
theorem rtwo17_nn (k : Nat) (i : Int) (s : ByteArray) (l : Nat) (j : Int) (t : ByteArray) (hk : k < 256) (hl : l < 256) (w : World) (A0 : (((k : Nat) : Int) == 0) = true) (A1 : (((k : Nat) : Int) == 1) = false) (A2 : (((k : Nat) : Int) == 2) = false) (B0 : (((l : Nat) : Int) == 0) = true) (B1 : (((l : Nat) : Int) == 1) = false) (B2 : (((l : Nat) : Int) == 2) = false)  (hfa : Val.fine ⟨k, i, s⟩ = true) (hfb : Val.fine ⟨l, j, t⟩ = true) (hr : Val.two 17 ⟨k, i, s⟩ ⟨l, j, t⟩ = (⟨0, 0, ⟨#[]⟩⟩, 0)) :
    Calls Tryd.prog 9 #[.int .u8 17, .agg #[.int .u8 (k : Int), .int .i64 i, .string s], .agg #[.int .u8 (l : Int), .int .i64 j, .string t]] w (Gives (Val.two 17 ⟨k, i, s⟩ ⟨l, j, t⟩) w) := by
  rw [hr]
  clear hr
  have H0 := Lib.hid (base3 w k i s l j t)
  go_enter Tryd.func9, Tryd.ntmps9
  go_wp2_with fail
  generalize hW : World.alloc (World.alloc (World.alloc w _) _) _ = v0 at H0 ⊢
  clear hW
  refine (rcheck_any k i s _ hk).mono ?_
  rw [hfa]
  rintro e v1 ⟨rfl, hb⟩
  have H1 := Lib.hid (H0.out.kept hb)
  clear hb H0
  obtain ⟨s0, s1, s2, s3, s4, s5⟩ := H1.out.s (fun _ hx => hx)
  obtain ⟨⟨r0, r1, r2⟩, ⟨f0, f1, f2⟩, y2⟩ := H1.out.r (fun _ hx => hx)
  go_wp2_with fail
  refine (rcheck_any l j t _ hl).mono ?_
  rw [hfb]
  rintro e v2 ⟨rfl, hb⟩
  have H2 := Lib.hid (H1.out.kept hb)
  clear hb H1
  clear s0 s1 s2 s3 s4 s5 r0 r1 r2 f0 f1 f2 y2
  obtain ⟨s0, s1, s2, s3, s4, s5⟩ := H2.out.s (fun _ hx => hx)
  obtain ⟨⟨r0, r1, r2⟩, ⟨f0, f1, f2⟩, y2⟩ := H2.out.r (fun _ hx => hx)
  go_wp2_with fail
  exact bodyPost_ret (v := .tuple #[.agg #[.int .u8 0, .int .i64 0, .string ⟨#[]⟩], .int .i64 0]) (by simp [results, go_sem, r0, r1, r2]) rfl (gives_of rfl (below_set3 (b := w.heap.size + 1 + 1) H2.out.below (by omega) _ _ _))
set_option maxRecDepth 100000 in
set_option maxHeartbeats 4000000 in
theorem rtwo17_nz (k : Nat) (i : Int) (s : ByteArray) (l : Nat) (j : Int) (t : ByteArray) (hk : k < 256) (hl : l < 256) (w : World) (A0 : (((k : Nat) : Int) == 0) = true) (A1 : (((k : Nat) : Int) == 1) = false) (A2 : (((k : Nat) : Int) == 2) = false) (B0 : (((l : Nat) : Int) == 0) = false) (B1 : (((l : Nat) : Int) == 1) = true) (B2 : (((l : Nat) : Int) == 2) = false) (J0 : (j == 0) = true) (J1 : (j != 0) = false)  (hfa : Val.fine ⟨k, i, s⟩ = true) (hfb : Val.fine ⟨l, j, t⟩ = true) (hr : Val.two 17 ⟨k, i, s⟩ ⟨l, j, t⟩ = (⟨1, 0, ⟨#[]⟩⟩, 0)) :
    Calls Tryd.prog 9 #[.int .u8 17, .agg #[.int .u8 (k : Int), .int .i64 i, .string s], .agg #[.int .u8 (l : Int), .int .i64 j, .string t]] w (Gives (Val.two 17 ⟨k, i, s⟩ ⟨l, j, t⟩) w) := by
  rw [hr]
  clear hr
  have H0 := Lib.hid (base3 w k i s l j t)
  go_enter Tryd.func9, Tryd.ntmps9
  go_wp2_with fail
  generalize hW : World.alloc (World.alloc (World.alloc w _) _) _ = v0 at H0 ⊢
  clear hW
  refine (rcheck_any k i s _ hk).mono ?_
  rw [hfa]
  rintro e v1 ⟨rfl, hb⟩
  have H1 := Lib.hid (H0.out.kept hb)
  clear hb H0
  obtain ⟨s0, s1, s2, s3, s4, s5⟩ := H1.out.s (fun _ hx => hx)
  obtain ⟨⟨r0, r1, r2⟩, ⟨f0, f1, f2⟩, y2⟩ := H1.out.r (fun _ hx => hx)
  go_wp2_with fail
  refine (rcheck_any l j t _ hl).mono ?_
  rw [hfb]
  rintro e v2 ⟨rfl, hb⟩
  have H2 := Lib.hid (H1.out.kept hb)
  clear hb H1
  clear s0 s1 s2 s3 s4 s5 r0 r1 r2 f0 f1 f2 y2
  obtain ⟨s0, s1, s2, s3, s4, s5⟩ := H2.out.s (fun _ hx => hx)
  obtain ⟨⟨r0, r1, r2⟩, ⟨f0, f1, f2⟩, y2⟩ := H2.out.r (fun _ hx => hx)
  go_wp2_with fail
  refine (rint_any _ _).mono ?_
  rintro e v3 ⟨rfl, hb⟩
  have H3 := Lib.hid (H2.out.kept hb)
  clear hb H2
  clear s0 s1 s2 s3 s4 s5 r0 r1 r2 f0 f1 f2 y2
  obtain ⟨s0, s1, s2, s3, s4, s5⟩ := H3.out.s (fun _ hx => hx)
  obtain ⟨⟨r0, r1, r2⟩, ⟨f0, f1, f2⟩, y2⟩ := H3.out.r (fun _ hx => hx)
  go_wp2_with fail
  exact bodyPost_ret (v := .tuple #[.agg #[.int .u8 1, .int .i64 0, .string ⟨#[]⟩], .int .i64 0]) (by simp [results, go_sem, r0, r1, r2]) rfl (gives_of rfl (below_set3 (b := w.heap.size + 1 + 1) H3.out.below (by omega) _ _ _))
set_option maxRecDepth 100000 in
set_option maxHeartbeats 4000000 in
theorem rtwo17_no (k : Nat) (i : Int) (s : ByteArray) (l : Nat) (j : Int) (t : ByteArray) (hk : k < 256) (hl : l < 256) (w : World) (A0 : (((k : Nat) : Int) == 0) = true) (A1 : (((k : Nat) : Int) == 1) = false) (A2 : (((k : Nat) : Int) == 2) = false) (B0 : (((l : Nat) : Int) == 0) = false) (B1 : (((l : Nat) : Int) == 1) = true) (B2 : (((l : Nat) : Int) == 2) = false) (J0 : (j == 0) = false) (J1 : (j != 0) = true)  (hfa : Val.fine ⟨k, i, s⟩ = true) (hfb : Val.fine ⟨l, j, t⟩ = true) (hr : Val.two 17 ⟨k, i, s⟩ ⟨l, j, t⟩ = (⟨0, 0, ⟨#[]⟩⟩, 0)) :
    Calls Tryd.prog 9 #[.int .u8 17, .agg #[.int .u8 (k : Int), .int .i64 i, .string s], .agg #[.int .u8 (l : Int), .int .i64 j, .string t]] w (Gives (Val.two 17 ⟨k, i, s⟩ ⟨l, j, t⟩) w) := by
  rw [hr]
  clear hr
  have H0 := Lib.hid (base3 w k i s l j t)
  go_enter Tryd.func9, Tryd.ntmps9
  go_wp2_with fail
  generalize hW : World.alloc (World.alloc (World.alloc w _) _) _ = v0 at H0 ⊢
  clear hW
  refine (rcheck_any k i s _ hk).mono ?_
  rw [hfa]
  rintro e v1 ⟨rfl, hb⟩
  have H1 := Lib.hid (H0.out.kept hb)
  clear hb H0
  obtain ⟨s0, s1, s2, s3, s4, s5⟩ := H1.out.s (fun _ hx => hx)
  obtain ⟨⟨r0, r1, r2⟩, ⟨f0, f1, f2⟩, y2⟩ := H1.out.r (fun _ hx => hx)
  go_wp2_with fail
  refine (rcheck_any l j t _ hl).mono ?_
  rw [hfb]
  rintro e v2 ⟨rfl, hb⟩
  have H2 := Lib.hid (H1.out.kept hb)
  clear hb H1
  clear s0 s1 s2 s3 s4 s5 r0 r1 r2 f0 f1 f2 y2
  obtain ⟨s0, s1, s2, s3, s4, s5⟩ := H2.out.s (fun _ hx => hx)
  obtain ⟨⟨r0, r1, r2⟩, ⟨f0, f1, f2⟩, y2⟩ := H2.out.r (fun _ hx => hx)
  go_wp2_with fail
  exact bodyPost_ret (v := .tuple #[.agg #[.int .u8 0, .int .i64 0, .string ⟨#[]⟩], .int .i64 0]) (by simp [results, go_sem, r0, r1, r2]) rfl (gives_of rfl (below_set3 (b := w.heap.size + 1 + 1) H2.out.below (by omega) _ _ _))
set_option maxRecDepth 100000 in
set_option maxHeartbeats 4000000 in
theorem rtwo17_zn (k : Nat) (i : Int) (s : ByteArray) (l : Nat) (j : Int) (t : ByteArray) (hk : k < 256) (hl : l < 256) (w : World) (A0 : (((k : Nat) : Int) == 0) = false) (A1 : (((k : Nat) : Int) == 1) = true) (A2 : (((k : Nat) : Int) == 2) = false) (I0 : (i == 0) = true) (I1 : (i != 0) = false) (B0 : (((l : Nat) : Int) == 0) = true) (B1 : (((l : Nat) : Int) == 1) = false) (B2 : (((l : Nat) : Int) == 2) = false)  (hfa : Val.fine ⟨k, i, s⟩ = true) (hfb : Val.fine ⟨l, j, t⟩ = true) (hr : Val.two 17 ⟨k, i, s⟩ ⟨l, j, t⟩ = (⟨1, 0, ⟨#[]⟩⟩, 0)) :
    Calls Tryd.prog 9 #[.int .u8 17, .agg #[.int .u8 (k : Int), .int .i64 i, .string s], .agg #[.int .u8 (l : Int), .int .i64 j, .string t]] w (Gives (Val.two 17 ⟨k, i, s⟩ ⟨l, j, t⟩) w) := by
  rw [hr]
  clear hr
  have H0 := Lib.hid (base3 w k i s l j t)
  go_enter Tryd.func9, Tryd.ntmps9
  go_wp2_with fail
  generalize hW : World.alloc (World.alloc (World.alloc w _) _) _ = v0 at H0 ⊢
  clear hW
  refine (rcheck_any k i s _ hk).mono ?_
  rw [hfa]
  rintro e v1 ⟨rfl, hb⟩
  have H1 := Lib.hid (H0.out.kept hb)
  clear hb H0
  obtain ⟨s0, s1, s2, s3, s4, s5⟩ := H1.out.s (fun _ hx => hx)
  obtain ⟨⟨r0, r1, r2⟩, ⟨f0, f1, f2⟩, y2⟩ := H1.out.r (fun _ hx => hx)
  go_wp2_with fail
  refine (rcheck_any l j t _ hl).mono ?_
  rw [hfb]
  rintro e v2 ⟨rfl, hb⟩
  have H2 := Lib.hid (H1.out.kept hb)
  clear hb H1
  clear s0 s1 s2 s3 s4 s5 r0 r1 r2 f0 f1 f2 y2
  obtain ⟨s0, s1, s2, s3, s4, s5⟩ := H2.out.s (fun _ hx => hx)
  obtain ⟨⟨r0, r1, r2⟩, ⟨f0, f1, f2⟩, y2⟩ := H2.out.r (fun _ hx => hx)
  go_wp2_with fail
  refine (rint_any _ _).mono ?_
  rintro e v3 ⟨rfl, hb⟩
  have H3 := Lib.hid (H2.out.kept hb)
  clear hb H2
  clear s0 s1 s2 s3 s4 s5 r0 r1 r2 f0 f1 f2 y2
  obtain ⟨s0, s1, s2, s3, s4, s5⟩ := H3.out.s (fun _ hx => hx)
  obtain ⟨⟨r0, r1, r2⟩, ⟨f0, f1, f2⟩, y2⟩ := H3.out.r (fun _ hx => hx)
  go_wp2_with fail
  exact bodyPost_ret (v := .tuple #[.agg #[.int .u8 1, .int .i64 0, .string ⟨#[]⟩], .int .i64 0]) (by simp [results, go_sem, r0, r1, r2]) rfl (gives_of rfl (below_set3 (b := w.heap.size + 1 + 1) H3.out.below (by omega) _ _ _))
set_option maxRecDepth 100000 in
set_option maxHeartbeats 4000000 in
theorem rtwo17_zz (k : Nat) (i : Int) (s : ByteArray) (l : Nat) (j : Int) (t : ByteArray) (hk : k < 256) (hl : l < 256) (w : World) (A0 : (((k : Nat) : Int) == 0) = false) (A1 : (((k : Nat) : Int) == 1) = true) (A2 : (((k : Nat) : Int) == 2) = false) (I0 : (i == 0) = true) (I1 : (i != 0) = false) (B0 : (((l : Nat) : Int) == 0) = false) (B1 : (((l : Nat) : Int) == 1) = true) (B2 : (((l : Nat) : Int) == 2) = false) (J0 : (j == 0) = true) (J1 : (j != 0) = false)  (hfa : Val.fine ⟨k, i, s⟩ = true) (hfb : Val.fine ⟨l, j, t⟩ = true) (hr : Val.two 17 ⟨k, i, s⟩ ⟨l, j, t⟩ = (⟨1, 0, ⟨#[]⟩⟩, 0)) :
    Calls Tryd.prog 9 #[.int .u8 17, .agg #[.int .u8 (k : Int), .int .i64 i, .string s], .agg #[.int .u8 (l : Int), .int .i64 j, .string t]] w (Gives (Val.two 17 ⟨k, i, s⟩ ⟨l, j, t⟩) w) := by
  rw [hr]
  clear hr
  have H0 := Lib.hid (base3 w k i s l j t)
  go_enter Tryd.func9, Tryd.ntmps9
  go_wp2_with fail
  generalize hW : World.alloc (World.alloc (World.alloc w _) _) _ = v0 at H0 ⊢
  clear hW
  refine (rcheck_any k i s _ hk).mono ?_
  rw [hfa]
  rintro e v1 ⟨rfl, hb⟩
  have H1 := Lib.hid (H0.out.kept hb)
  clear hb H0
  obtain ⟨s0, s1, s2, s3, s4, s5⟩ := H1.out.s (fun _ hx => hx)
  obtain ⟨⟨r0, r1, r2⟩, ⟨f0, f1, f2⟩, y2⟩ := H1.out.r (fun _ hx => hx)
  go_wp2_with fail
  refine (rcheck_any l j t _ hl).mono ?_
  rw [hfb]
  rintro e v2 ⟨rfl, hb⟩
  have H2 := Lib.hid (H1.out.kept hb)
  clear hb H1
  clear s0 s1 s2 s3 s4 s5 r0 r1 r2 f0 f1 f2 y2
  obtain ⟨s0, s1, s2, s3, s4, s5⟩ := H2.out.s (fun _ hx => hx)
  obtain ⟨⟨r0, r1, r2⟩, ⟨f0, f1, f2⟩, y2⟩ := H2.out.r (fun _ hx => hx)
  go_wp2_with fail
  refine (rint_any _ _).mono ?_
  rintro e v3 ⟨rfl, hb⟩
  have H3 := Lib.hid (H2.out.kept hb)
  clear hb H2
  clear s0 s1 s2 s3 s4 s5 r0 r1 r2 f0 f1 f2 y2
  obtain ⟨s0, s1, s2, s3, s4, s5⟩ := H3.out.s (fun _ hx => hx)
  obtain ⟨⟨r0, r1, r2⟩, ⟨f0, f1, f2⟩, y2⟩ := H3.out.r (fun _ hx => hx)
  go_wp2_with fail
  exact bodyPost_ret (v := .tuple #[.agg #[.int .u8 1, .int .i64 0, .string ⟨#[]⟩], .int .i64 0]) (by simp [results, go_sem, r0, r1, r2]) rfl (gives_of rfl (below_set3 (b := w.heap.size + 1 + 1) H3.out.below (by omega) _ _ _))
set_option maxRecDepth 100000 in
set_option maxHeartbeats 4000000 in
theorem rtwo17_zo (k : Nat) (i : Int) (s : ByteArray) (l : Nat) (j : Int) (t : ByteArray) (hk : k < 256) (hl : l < 256) (w : World) (A0 : (((k : Nat) : Int) == 0) = false) (A1 : (((k : Nat) : Int) == 1) = true) (A2 : (((k : Nat) : Int) == 2) = false) (I0 : (i == 0) = true) (I1 : (i != 0) = false) (B0 : (((l : Nat) : Int) == 0) = false) (B1 : (((l : Nat) : Int) == 1) = true) (B2 : (((l : Nat) : Int) == 2) = false) (J0 : (j == 0) = false) (J1 : (j != 0) = true)  (hfa : Val.fine ⟨k, i, s⟩ = true) (hfb : Val.fine ⟨l, j, t⟩ = true) (hr : Val.two 17 ⟨k, i, s⟩ ⟨l, j, t⟩ = (⟨1, 0, ⟨#[]⟩⟩, 0)) :
    Calls Tryd.prog 9 #[.int .u8 17, .agg #[.int .u8 (k : Int), .int .i64 i, .string s], .agg #[.int .u8 (l : Int), .int .i64 j, .string t]] w (Gives (Val.two 17 ⟨k, i, s⟩ ⟨l, j, t⟩) w) := by
  rw [hr]
  clear hr
  have H0 := Lib.hid (base3 w k i s l j t)
  go_enter Tryd.func9, Tryd.ntmps9
  go_wp2_with fail
  generalize hW : World.alloc (World.alloc (World.alloc w _) _) _ = v0 at H0 ⊢
  clear hW
  refine (rcheck_any k i s _ hk).mono ?_
  rw [hfa]
  rintro e v1 ⟨rfl, hb⟩
  have H1 := Lib.hid (H0.out.kept hb)
  clear hb H0
  obtain ⟨s0, s1, s2, s3, s4, s5⟩ := H1.out.s (fun _ hx => hx)
  obtain ⟨⟨r0, r1, r2⟩, ⟨f0, f1, f2⟩, y2⟩ := H1.out.r (fun _ hx => hx)
  go_wp2_with fail
  refine (rcheck_any l j t _ hl).mono ?_
  rw [hfb]
  rintro e v2 ⟨rfl, hb⟩
  have H2 := Lib.hid (H1.out.kept hb)
  clear hb H1
  clear s0 s1 s2 s3 s4 s5 r0 r1 r2 f0 f1 f2 y2
  obtain ⟨s0, s1, s2, s3, s4, s5⟩ := H2.out.s (fun _ hx => hx)
  obtain ⟨⟨r0, r1, r2⟩, ⟨f0, f1, f2⟩, y2⟩ := H2.out.r (fun _ hx => hx)
  go_wp2_with fail
  refine (rint_any _ _).mono ?_
  rintro e v3 ⟨rfl, hb⟩
  have H3 := Lib.hid (H2.out.kept hb)
  clear hb H2
  clear s0 s1 s2 s3 s4 s5 r0 r1 r2 f0 f1 f2 y2
  obtain ⟨s0, s1, s2, s3, s4, s5⟩ := H3.out.s (fun _ hx => hx)
  obtain ⟨⟨r0, r1, r2⟩, ⟨f0, f1, f2⟩, y2⟩ := H3.out.r (fun _ hx => hx)
  go_wp2_with fail
  exact bodyPost_ret (v := .tuple #[.agg #[.int .u8 1, .int .i64 0, .string ⟨#[]⟩], .int .i64 0]) (by simp [results, go_sem, r0, r1, r2]) rfl (gives_of rfl (below_set3 (b := w.heap.size + 1 + 1) H3.out.below (by omega) _ _ _))
set_option maxRecDepth 100000 in
set_option maxHeartbeats 4000000 in
theorem rtwo17_on (k : Nat) (i : Int) (s : ByteArray) (l : Nat) (j : Int) (t : ByteArray) (hk : k < 256) (hl : l < 256) (w : World) (A0 : (((k : Nat) : Int) == 0) = false) (A1 : (((k : Nat) : Int) == 1) = true) (A2 : (((k : Nat) : Int) == 2) = false) (I0 : (i == 0) = false) (I1 : (i != 0) = true) (B0 : (((l : Nat) : Int) == 0) = true) (B1 : (((l : Nat) : Int) == 1) = false) (B2 : (((l : Nat) : Int) == 2) = false)  (hfa : Val.fine ⟨k, i, s⟩ = true) (hfb : Val.fine ⟨l, j, t⟩ = true) (hr : Val.two 17 ⟨k, i, s⟩ ⟨l, j, t⟩ = (⟨0, 0, ⟨#[]⟩⟩, 0)) :
    Calls Tryd.prog 9 #[.int .u8 17, .agg #[.int .u8 (k : Int), .int .i64 i, .string s], .agg #[.int .u8 (l : Int), .int .i64 j, .string t]] w (Gives (Val.two 17 ⟨k, i, s⟩ ⟨l, j, t⟩) w) := by
  rw [hr]
  clear hr
  have H0 := Lib.hid (base3 w k i s l j t)
  go_enter Tryd.func9, Tryd.ntmps9
  go_wp2_with fail
  generalize hW : World.alloc (World.alloc (World.alloc w _) _) _ = v0 at H0 ⊢
  clear hW
  refine (rcheck_any k i s _ hk).mono ?_
  rw [hfa]
  rintro e v1 ⟨rfl, hb⟩
  have H1 := Lib.hid (H0.out.kept hb)
  clear hb H0
  obtain ⟨s0, s1, s2, s3, s4, s5⟩ := H1.out.s (fun _ hx => hx)
  obtain ⟨⟨r0, r1, r2⟩, ⟨f0, f1, f2⟩, y2⟩ := H1.out.r (fun _ hx => hx)
  go_wp2_with fail
  refine (rcheck_any l j t _ hl).mono ?_
  rw [hfb]
  rintro e v2 ⟨rfl, hb⟩
  have H2 := Lib.hid (H1.out.kept hb)
  clear hb H1
  clear s0 s1 s2 s3 s4 s5 r0 r1 r2 f0 f1 f2 y2
  obtain ⟨s0, s1, s2, s3, s4, s5⟩ := H2.out.s (fun _ hx => hx)
  obtain ⟨⟨r0, r1, r2⟩, ⟨f0, f1, f2⟩, y2⟩ := H2.out.r (fun _ hx => hx)
  go_wp2_with fail
  exact bodyPost_ret (v := .tuple #[.agg #[.int .u8 0, .int .i64 0, .string ⟨#[]⟩], .int .i64 0]) (by simp [results, go_sem, r0, r1, r2]) rfl (gives_of rfl (below_set3 (b := w.heap.size + 1 + 1) H2.out.below (by omega) _ _ _))
set_option maxRecDepth 100000 in
set_option maxHeartbeats 4000000 in
theorem rtwo17_oz (k : Nat) (i : Int) (s : ByteArray) (l : Nat) (j : Int) (t : ByteArray) (hk : k < 256) (hl : l < 256) (w : World) (A0 : (((k : Nat) : Int) == 0) = false) (A1 : (((k : Nat) : Int) == 1) = true) (A2 : (((k : Nat) : Int) == 2) = false) (I0 : (i == 0) = false) (I1 : (i != 0) = true) (B0 : (((l : Nat) : Int) == 0) = false) (B1 : (((l : Nat) : Int) == 1) = true) (B2 : (((l : Nat) : Int) == 2) = false) (J0 : (j == 0) = true) (J1 : (j != 0) = false)  (hfa : Val.fine ⟨k, i, s⟩ = true) (hfb : Val.fine ⟨l, j, t⟩ = true) (hr : Val.two 17 ⟨k, i, s⟩ ⟨l, j, t⟩ = (⟨1, 0, ⟨#[]⟩⟩, 0)) :
    Calls Tryd.prog 9 #[.int .u8 17, .agg #[.int .u8 (k : Int), .int .i64 i, .string s], .agg #[.int .u8 (l : Int), .int .i64 j, .string t]] w (Gives (Val.two 17 ⟨k, i, s⟩ ⟨l, j, t⟩) w) := by
  rw [hr]
  clear hr
  have H0 := Lib.hid (base3 w k i s l j t)
  go_enter Tryd.func9, Tryd.ntmps9
  go_wp2_with fail
  generalize hW : World.alloc (World.alloc (World.alloc w _) _) _ = v0 at H0 ⊢
  clear hW
  refine (rcheck_any k i s _ hk).mono ?_
  rw [hfa]
  rintro e v1 ⟨rfl, hb⟩
  have H1 := Lib.hid (H0.out.kept hb)
  clear hb H0
  obtain ⟨s0, s1, s2, s3, s4, s5⟩ := H1.out.s (fun _ hx => hx)
  obtain ⟨⟨r0, r1, r2⟩, ⟨f0, f1, f2⟩, y2⟩ := H1.out.r (fun _ hx => hx)
  go_wp2_with fail
  refine (rcheck_any l j t _ hl).mono ?_
  rw [hfb]
  rintro e v2 ⟨rfl, hb⟩
  have H2 := Lib.hid (H1.out.kept hb)
  clear hb H1
  clear s0 s1 s2 s3 s4 s5 r0 r1 r2 f0 f1 f2 y2
  obtain ⟨s0, s1, s2, s3, s4, s5⟩ := H2.out.s (fun _ hx => hx)
  obtain ⟨⟨r0, r1, r2⟩, ⟨f0, f1, f2⟩, y2⟩ := H2.out.r (fun _ hx => hx)
  go_wp2_with fail
  refine (rint_any _ _).mono ?_
  rintro e v3 ⟨rfl, hb⟩
  have H3 := Lib.hid (H2.out.kept hb)
  clear hb H2
  clear s0 s1 s2 s3 s4 s5 r0 r1 r2 f0 f1 f2 y2
  obtain ⟨s0, s1, s2, s3, s4, s5⟩ := H3.out.s (fun _ hx => hx)
  obtain ⟨⟨r0, r1, r2⟩, ⟨f0, f1, f2⟩, y2⟩ := H3.out.r (fun _ hx => hx)
  go_wp2_with fail
  exact bodyPost_ret (v := .tuple #[.agg #[.int .u8 1, .int .i64 0, .string ⟨#[]⟩], .int .i64 0]) (by simp [results, go_sem, r0, r1, r2]) rfl (gives_of rfl (below_set3 (b := w.heap.size + 1 + 1) H3.out.below (by omega) _ _ _))
set_option maxRecDepth 100000 in
set_option maxHeartbeats 4000000 in
theorem rtwo17_oo (k : Nat) (i : Int) (s : ByteArray) (l : Nat) (j : Int) (t : ByteArray) (hk : k < 256) (hl : l < 256) (w : World) (A0 : (((k : Nat) : Int) == 0) = false) (A1 : (((k : Nat) : Int) == 1) = true) (A2 : (((k : Nat) : Int) == 2) = false) (I0 : (i == 0) = false) (I1 : (i != 0) = true) (B0 : (((l : Nat) : Int) == 0) = false) (B1 : (((l : Nat) : Int) == 1) = true) (B2 : (((l : Nat) : Int) == 2) = false) (J0 : (j == 0) = false) (J1 : (j != 0) = true)  (hfa : Val.fine ⟨k, i, s⟩ = true) (hfb : Val.fine ⟨l, j, t⟩ = true) (hr : Val.two 17 ⟨k, i, s⟩ ⟨l, j, t⟩ = (⟨1, 1, ⟨#[]⟩⟩, 0)) :
    Calls Tryd.prog 9 #[.int .u8 17, .agg #[.int .u8 (k : Int), .int .i64 i, .string s], .agg #[.int .u8 (l : Int), .int .i64 j, .string t]] w (Gives (Val.two 17 ⟨k, i, s⟩ ⟨l, j, t⟩) w) := by
  rw [hr]
  clear hr
  have H0 := Lib.hid (base3 w k i s l j t)
  go_enter Tryd.func9, Tryd.ntmps9
  go_wp2_with fail
  generalize hW : World.alloc (World.alloc (World.alloc w _) _) _ = v0 at H0 ⊢
  clear hW
  refine (rcheck_any k i s _ hk).mono ?_
  rw [hfa]
  rintro e v1 ⟨rfl, hb⟩
  have H1 := Lib.hid (H0.out.kept hb)
  clear hb H0
  obtain ⟨s0, s1, s2, s3, s4, s5⟩ := H1.out.s (fun _ hx => hx)
  obtain ⟨⟨r0, r1, r2⟩, ⟨f0, f1, f2⟩, y2⟩ := H1.out.r (fun _ hx => hx)
  go_wp2_with fail
  refine (rcheck_any l j t _ hl).mono ?_
  rw [hfb]
  rintro e v2 ⟨rfl, hb⟩
  have H2 := Lib.hid (H1.out.kept hb)
  clear hb H1
  clear s0 s1 s2 s3 s4 s5 r0 r1 r2 f0 f1 f2 y2
  obtain ⟨s0, s1, s2, s3, s4, s5⟩ := H2.out.s (fun _ hx => hx)
  obtain ⟨⟨r0, r1, r2⟩, ⟨f0, f1, f2⟩, y2⟩ := H2.out.r (fun _ hx => hx)
  go_wp2_with fail
  refine (ryes_any _ _).mono ?_
  rintro e v3 ⟨rfl, hb⟩
  have H3 := Lib.hid (H2.out.kept hb)
  clear hb H2
  clear s0 s1 s2 s3 s4 s5 r0 r1 r2 f0 f1 f2 y2
  obtain ⟨s0, s1, s2, s3, s4, s5⟩ := H3.out.s (fun _ hx => hx)
  obtain ⟨⟨r0, r1, r2⟩, ⟨f0, f1, f2⟩, y2⟩ := H3.out.r (fun _ hx => hx)
  go_wp2_with fail
  exact bodyPost_ret (v := .tuple #[.agg #[.int .u8 1, .int .i64 1, .string ⟨#[]⟩], .int .i64 0]) (by simp [results, go_sem, r0, r1, r2, bitI]) rfl (gives_of rfl (below_set3 (b := w.heap.size + 1 + 1) H3.out.below (by omega) _ _ _))
end
section
open Go.RowKit Go.Lib
set_option linter.unusedVariables false

set_option maxRecDepth 100000 in
set_option maxHeartbeats 4000000 in
theorem rtwo18_t (k : Nat) (i : Int) (s : ByteArray) (l : Nat) (j : Int) (t : ByteArray) (hk : k < 256) (hl : l < 256) (w : World) (A0 : (((k : Nat) : Int) == 0) = false) (A1 : (((k : Nat) : Int) == 1) = false) (A2 : (((k : Nat) : Int) == 2) = true)  (hfa : Val.fine ⟨k, i, s⟩ = true) (hfb : Val.fine ⟨l, j, t⟩ = true) (hr : Val.two 18 ⟨k, i, s⟩ ⟨l, j, t⟩ = (⟨0, 0, ⟨#[]⟩⟩, 11)) :
    Calls Tryd.prog 9 #[.int .u8 18, .agg #[.int .u8 (k : Int), .int .i64 i, .string s], .agg #[.int .u8 (l : Int), .int .i64 j, .string t]] w (Gives (Val.two 18 ⟨k, i, s⟩ ⟨l, j, t⟩) w) := by
  rw [hr]
  clear hr
  have H0 := Lib.hid (base3 w k i s l j t)
  go_enter Tryd.func9, Tryd.ntmps9
  go_wp2_with fail
  generalize hW : World.alloc (World.alloc (World.alloc w _) _) _ = v0 at H0 ⊢
  clear hW
  refine (rcheck_any k i s _ hk).mono ?_
  rw [hfa]
  rintro e v1 ⟨rfl, hb⟩
  have H1 := Lib.hid (H0.out.kept hb)
  clear hb H0
  obtain ⟨s0, s1, s2, s3, s4, s5⟩ := H1.out.s (fun _ hx => hx)
  obtain ⟨⟨r0, r1, r2⟩, ⟨f0, f1, f2⟩, y2⟩ := H1.out.r (fun _ hx => hx)
  go_wp2_with fail
  refine (rcheck_any l j t _ hl).mono ?_
  rw [hfb]
  rintro e v2 ⟨rfl, hb⟩
  have H2 := Lib.hid (H1.out.kept hb)
  clear hb H1
  clear s0 s1 s2 s3 s4 s5 r0 r1 r2 f0 f1 f2 y2
  obtain ⟨s0, s1, s2, s3, s4, s5⟩ := H2.out.s (fun _ hx => hx)
  obtain ⟨⟨r0, r1, r2⟩, ⟨f0, f1, f2⟩, y2⟩ := H2.out.r (fun _ hx => hx)
  go_wp2_with fail
  exact bodyPost_ret (v := .tuple #[.agg #[.int .u8 0, .int .i64 0, .string ⟨#[]⟩], .int .i64 11]) (by simp [results, go_sem, r0, r1, r2]) rfl (gives_of rfl (below_set3 (b := w.heap.size + 1 + 1) H2.out.below (by omega) _ _ _))
set_option maxRecDepth 100000 in
set_option maxHeartbeats 4000000 in
theorem rtwo18_nt (k : Nat) (i : Int) (s : ByteArray) (l : Nat) (j : Int) (t : ByteArray) (hk : k < 256) (hl : l < 256) (w : World) (A0 : (((k : Nat) : Int) == 0) = true) (A1 : (((k : Nat) : Int) == 1) = false) (A2 : (((k : Nat) : Int) == 2) = false) (B0 : (((l : Nat) : Int) == 0) = false) (B1 : (((l : Nat) : Int) == 1) = false) (B2 : (((l : Nat) : Int) == 2) = true)  (hfa : Val.fine ⟨k, i, s⟩ = true) (hfb : Val.fine ⟨l, j, t⟩ = true) (hr : Val.two 18 ⟨k, i, s⟩ ⟨l, j, t⟩ = (⟨0, 0, ⟨#[]⟩⟩, 11)) :
    Calls Tryd.prog 9 #[.int .u8 18, .agg #[.int .u8 (k : Int), .int .i64 i, .string s], .agg #[.int .u8 (l : Int), .int .i64 j, .string t]] w (Gives (Val.two 18 ⟨k, i, s⟩ ⟨l, j, t⟩) w) := by
  rw [hr]
  clear hr
  have H0 := Lib.hid (base3 w k i s l j t)
  go_enter Tryd.func9, Tryd.ntmps9
  go_wp2_with fail
  generalize hW : World.alloc (World.alloc (World.alloc w _) _) _ = v0 at H0 ⊢
  clear hW
  refine (rcheck_any k i s _ hk).mono ?_
  rw [hfa]
  rintro e v1 ⟨rfl, hb⟩
  have H1 := Lib.hid (H0.out.kept hb)
  clear hb H0
  obtain ⟨s0, s1, s2, s3, s4, s5⟩ := H1.out.s (fun _ hx => hx)
  obtain ⟨⟨r0, r1, r2⟩, ⟨f0, f1, f2⟩, y2⟩ := H1.out.r (fun _ hx => hx)
  go_wp2_with fail
  refine (rcheck_any l j t _ hl).mono ?_
  rw [hfb]
  rintro e v2 ⟨rfl, hb⟩
  have H2 := Lib.hid (H1.out.kept hb)
  clear hb H1
  clear s0 s1 s2 s3 s4 s5 r0 r1 r2 f0 f1 f2 y2
  obtain ⟨s0, s1, s2, s3, s4, s5⟩ := H2.out.s (fun _ hx => hx)
  obtain ⟨⟨r0, r1, r2⟩, ⟨f0, f1, f2⟩, y2⟩ := H2.out.r (fun _ hx => hx)
  go_wp2_with fail
  exact bodyPost_ret (v := .tuple #[.agg #[.int .u8 0, .int .i64 0, .string ⟨#[]⟩], .int .i64 11]) (by simp [results, go_sem, r0, r1, r2]) rfl (gives_of rfl (below_set3 (b := w.heap.size + 1 + 1) H2.out.below (by omega) _ _ _))
set_option maxRecDepth 100000 in
set_option maxHeartbeats 4000000 in
theorem rtwo18_mt (k : Nat) (i : Int) (s : ByteArray) (l : Nat) (j : Int) (t : ByteArray) (hk : k < 256) (hl : l < 256) (w : World) (A0 : (((k : Nat) : Int) == 0) = false) (A1 : (((k : Nat) : Int) == 1) = true) (A2 : (((k : Nat) : Int) == 2) = false) (B0 : (((l : Nat) : Int) == 0) = false) (B1 : (((l : Nat) : Int) == 1) = false) (B2 : (((l : Nat) : Int) == 2) = true)  (hfa : Val.fine ⟨k, i, s⟩ = true) (hfb : Val.fine ⟨l, j, t⟩ = true) (hr : Val.two 18 ⟨k, i, s⟩ ⟨l, j, t⟩ = (⟨0, 0, ⟨#[]⟩⟩, 11)) :
    Calls Tryd.prog 9 #[.int .u8 18, .agg #[.int .u8 (k : Int), .int .i64 i, .string s], .agg #[.int .u8 (l : Int), .int .i64 j, .string t]] w (Gives (Val.two 18 ⟨k, i, s⟩ ⟨l, j, t⟩) w) := by
  rw [hr]
  clear hr
  have H0 := Lib.hid (base3 w k i s l j t)
  go_enter Tryd.func9, Tryd.ntmps9
  go_wp2_with fail
  generalize hW : World.alloc (World.alloc (World.alloc w _) _) _ = v0 at H0 ⊢
  clear hW
  refine (rcheck_any k i s _ hk).mono ?_
  rw [hfa]
  rintro e v1 ⟨rfl, hb⟩
  have H1 := Lib.hid (H0.out.kept hb)
  clear hb H0
  obtain ⟨s0, s1, s2, s3, s4, s5⟩ := H1.out.s (fun _ hx => hx)
  obtain ⟨⟨r0, r1, r2⟩, ⟨f0, f1, f2⟩, y2⟩ := H1.out.r (fun _ hx => hx)
  go_wp2_with fail
  refine (rcheck_any l j t _ hl).mono ?_
  rw [hfb]
  rintro e v2 ⟨rfl, hb⟩
  have H2 := Lib.hid (H1.out.kept hb)
  clear hb H1
  clear s0 s1 s2 s3 s4 s5 r0 r1 r2 f0 f1 f2 y2
  obtain ⟨s0, s1, s2, s3, s4, s5⟩ := H2.out.s (fun _ hx => hx)
  obtain ⟨⟨r0, r1, r2⟩, ⟨f0, f1, f2⟩, y2⟩ := H2.out.r (fun _ hx => hx)
  go_wp2_with fail
  exact bodyPost_ret (v := .tuple #[.agg #[.int .u8 0, .int .i64 0, .string ⟨#[]⟩], .int .i64 11]) (by simp [results, go_sem, r0, r1, r2]) rfl (gives_of rfl (below_set3 (b := w.heap.size + 1 + 1) H2.out.below (by omega) _ _ _))
set_option maxRecDepth 100000 in
set_option maxHeartbeats 4000000 in
theorem rtwo18_nn (k : Nat) (i : Int) (s : ByteArray) (l : Nat) (j : Int) (t : ByteArray) (hk : k < 256) (hl : l < 256) (w : World) (A0 : (((k : Nat) : Int) == 0) = true) (A1 : (((k : Nat) : Int) == 1) = false) (A2 : (((k : Nat) : Int) == 2) = false) (B0 : (((l : Nat) : Int) == 0) = true) (B1 : (((l : Nat) : Int) == 1) = false) (B2 : (((l : Nat) : Int) == 2) = false)  (hfa : Val.fine ⟨k, i, s⟩ = true) (hfb : Val.fine ⟨l, j, t⟩ = true) (hr : Val.two 18 ⟨k, i, s⟩ ⟨l, j, t⟩ = (⟨0, 0, ⟨#[]⟩⟩, 0)) :
    Calls Tryd.prog 9 #[.int .u8 18, .agg #[.int .u8 (k : Int), .int .i64 i, .string s], .agg #[.int .u8 (l : Int), .int .i64 j, .string t]] w (Gives (Val.two 18 ⟨k, i, s⟩ ⟨l, j, t⟩) w) := by
  rw [hr]
  clear hr
  have H0 := Lib.hid (base3 w k i s l j t)
  go_enter Tryd.func9, Tryd.ntmps9
  go_wp2_with fail
  generalize hW : World.alloc (World.alloc (World.alloc w _) _) _ = v0 at H0 ⊢
  clear hW
  refine (rcheck_any k i s _ hk).mono ?_
  rw [hfa]
  rintro e v1 ⟨rfl, hb⟩
  have H1 := Lib.hid (H0.out.kept hb)
  clear hb H0
  obtain ⟨s0, s1, s2, s3, s4, s5⟩ := H1.out.s (fun _ hx => hx)
  obtain ⟨⟨r0, r1, r2⟩, ⟨f0, f1, f2⟩, y2⟩ := H1.out.r (fun _ hx => hx)
  go_wp2_with fail
  refine (rcheck_any l j t _ hl).mono ?_
  rw [hfb]
  rintro e v2 ⟨rfl, hb⟩
  have H2 := Lib.hid (H1.out.kept hb)
  clear hb H1
  clear s0 s1 s2 s3 s4 s5 r0 r1 r2 f0 f1 f2 y2
  obtain ⟨s0, s1, s2, s3, s4, s5⟩ := H2.out.s (fun _ hx => hx)
  obtain ⟨⟨r0, r1, r2⟩, ⟨f0, f1, f2⟩, y2⟩ := H2.out.r (fun _ hx => hx)
  go_wp2_with fail
  exact bodyPost_ret (v := .tuple #[.agg #[.int .u8 0, .int .i64 0, .string ⟨#[]⟩], .int .i64 0]) (by simp [results, go_sem, r0, r1, r2]) rfl (gives_of rfl (below_set3 (b := w.heap.size + 1 + 1) H2.out.below (by omega) _ _ _))
set_option maxRecDepth 100000 in
set_option maxHeartbeats 4000000 in
theorem rtwo18_nz (k : Nat) (i : Int) (s : ByteArray) (l : Nat) (j : Int) (t : ByteArray) (hk : k < 256) (hl : l < 256) (w : World) (A0 : (((k : Nat) : Int) == 0) = true) (A1 : (((k : Nat) : Int) == 1) = false) (A2 : (((k : Nat) : Int) == 2) = false) (B0 : (((l : Nat) : Int) == 0) = false) (B1 : (((l : Nat) : Int) == 1) = true) (B2 : (((l : Nat) : Int) == 2) = false) (J0 : (j == 0) = true) (J1 : (j != 0) = false)  (hfa : Val.fine ⟨k, i, s⟩ = true) (hfb : Val.fine ⟨l, j, t⟩ = true) (hr : Val.two 18 ⟨k, i, s⟩ ⟨l, j, t⟩ = (⟨0, 0, ⟨#[]⟩⟩, 0)) :
    Calls Tryd.prog 9 #[.int .u8 18, .agg #[.int .u8 (k : Int), .int .i64 i, .string s], .agg #[.int .u8 (l : Int), .int .i64 j, .string t]] w (Gives (Val.two 18 ⟨k, i, s⟩ ⟨l, j, t⟩) w) := by
  rw [hr]
  clear hr
  have H0 := Lib.hid (base3 w k i s l j t)
  go_enter Tryd.func9, Tryd.ntmps9
  go_wp2_with fail
  generalize hW : World.alloc (World.alloc (World.alloc w _) _) _ = v0 at H0 ⊢
  clear hW
  refine (rcheck_any k i s _ hk).mono ?_
  rw [hfa]
  rintro e v1 ⟨rfl, hb⟩
  have H1 := Lib.hid (H0.out.kept hb)
  clear hb H0
  obtain ⟨s0, s1, s2, s3, s4, s5⟩ := H1.out.s (fun _ hx => hx)
  obtain ⟨⟨r0, r1, r2⟩, ⟨f0, f1, f2⟩, y2⟩ := H1.out.r (fun _ hx => hx)
  go_wp2_with fail
  refine (rcheck_any l j t _ hl).mono ?_
  rw [hfb]
  rintro e v2 ⟨rfl, hb⟩
  have H2 := Lib.hid (H1.out.kept hb)
  clear hb H1
  clear s0 s1 s2 s3 s4 s5 r0 r1 r2 f0 f1 f2 y2
  obtain ⟨s0, s1, s2, s3, s4, s5⟩ := H2.out.s (fun _ hx => hx)
  obtain ⟨⟨r0, r1, r2⟩, ⟨f0, f1, f2⟩, y2⟩ := H2.out.r (fun _ hx => hx)
  go_wp2_with fail
  exact bodyPost_ret (v := .tuple #[.agg #[.int .u8 0, .int .i64 0, .string ⟨#[]⟩], .int .i64 0]) (by simp [results, go_sem, r0, r1, r2]) rfl (gives_of rfl (below_set3 (b := w.heap.size + 1 + 1) H2.out.below (by omega) _ _ _))
set_option maxRecDepth 100000 in
set_option maxHeartbeats 4000000 in
theorem rtwo18_no (k : Nat) (i : Int) (s : ByteArray) (l : Nat) (j : Int) (t : ByteArray) (hk : k < 256) (hl : l < 256) (w : World) (A0 : (((k : Nat) : Int) == 0) = true) (A1 : (((k : Nat) : Int) == 1) = false) (A2 : (((k : Nat) : Int) == 2) = false) (B0 : (((l : Nat) : Int) == 0) = false) (B1 : (((l : Nat) : Int) == 1) = true) (B2 : (((l : Nat) : Int) == 2) = false) (J0 : (j == 0) = false) (J1 : (j != 0) = true)  (hfa : Val.fine ⟨k, i, s⟩ = true) (hfb : Val.fine ⟨l, j, t⟩ = true) (hr : Val.two 18 ⟨k, i, s⟩ ⟨l, j, t⟩ = (⟨1, 1, ⟨#[]⟩⟩, 0)) :
    Calls Tryd.prog 9 #[.int .u8 18, .agg #[.int .u8 (k : Int), .int .i64 i, .string s], .agg #[.int .u8 (l : Int), .int .i64 j, .string t]] w (Gives (Val.two 18 ⟨k, i, s⟩ ⟨l, j, t⟩) w) := by
  rw [hr]
  clear hr
  have H0 := Lib.hid (base3 w k i s l j t)
  go_enter Tryd.func9, Tryd.ntmps9
  go_wp2_with fail
  generalize hW : World.alloc (World.alloc (World.alloc w _) _) _ = v0 at H0 ⊢
  clear hW
  refine (rcheck_any k i s _ hk).mono ?_
  rw [hfa]
  rintro e v1 ⟨rfl, hb⟩
  have H1 := Lib.hid (H0.out.kept hb)
  clear hb H0
  obtain ⟨s0, s1, s2, s3, s4, s5⟩ := H1.out.s (fun _ hx => hx)
  obtain ⟨⟨r0, r1, r2⟩, ⟨f0, f1, f2⟩, y2⟩ := H1.out.r (fun _ hx => hx)
  go_wp2_with fail
  refine (rcheck_any l j t _ hl).mono ?_
  rw [hfb]
  rintro e v2 ⟨rfl, hb⟩
  have H2 := Lib.hid (H1.out.kept hb)
  clear hb H1
  clear s0 s1 s2 s3 s4 s5 r0 r1 r2 f0 f1 f2 y2
  obtain ⟨s0, s1, s2, s3, s4, s5⟩ := H2.out.s (fun _ hx => hx)
  obtain ⟨⟨r0, r1, r2⟩, ⟨f0, f1, f2⟩, y2⟩ := H2.out.r (fun _ hx => hx)
  go_wp2_with fail
  refine (rint_any _ _).mono ?_
  rintro e v3 ⟨rfl, hb⟩
  have H3 := Lib.hid (H2.out.kept hb)
  clear hb H2
  clear s0 s1 s2 s3 s4 s5 r0 r1 r2 f0 f1 f2 y2
  obtain ⟨s0, s1, s2, s3, s4, s5⟩ := H3.out.s (fun _ hx => hx)
  obtain ⟨⟨r0, r1, r2⟩, ⟨f0, f1, f2⟩, y2⟩ := H3.out.r (fun _ hx => hx)
  go_wp2_with fail
  exact bodyPost_ret (v := .tuple #[.agg #[.int .u8 1, .int .i64 1, .string ⟨#[]⟩], .int .i64 0]) (by simp [results, go_sem, r0, r1, r2]) rfl (gives_of rfl (below_set3 (b := w.heap.size + 1 + 1) H3.out.below (by omega) _ _ _))
set_option maxRecDepth 100000 in
set_option maxHeartbeats 4000000 in
theorem rtwo18_zn (k : Nat) (i : Int) (s : ByteArray) (l : Nat) (j : Int) (t : ByteArray) (hk : k < 256) (hl : l < 256) (w : World) (A0 : (((k : Nat) : Int) == 0) = false) (A1 : (((k : Nat) : Int) == 1) = true) (A2 : (((k : Nat) : Int) == 2) = false) (I0 : (i == 0) = true) (I1 : (i != 0) = false) (B0 : (((l : Nat) : Int) == 0) = true) (B1 : (((l : Nat) : Int) == 1) = false) (B2 : (((l : Nat) : Int) == 2) = false)  (hfa : Val.fine ⟨k, i, s⟩ = true) (hfb : Val.fine ⟨l, j, t⟩ = true) (hr : Val.two 18 ⟨k, i, s⟩ ⟨l, j, t⟩ = (⟨0, 0, ⟨#[]⟩⟩, 0)) :
    Calls Tryd.prog 9 #[.int .u8 18, .agg #[.int .u8 (k : Int), .int .i64 i, .string s], .agg #[.int .u8 (l : Int), .int .i64 j, .string t]] w (Gives (Val.two 18 ⟨k, i, s⟩ ⟨l, j, t⟩) w) := by
  rw [hr]
  clear hr
  have H0 := Lib.hid (base3 w k i s l j t)
  go_enter Tryd.func9, Tryd.ntmps9
  go_wp2_with fail
  generalize hW : World.alloc (World.alloc (World.alloc w _) _) _ = v0 at H0 ⊢
  clear hW
  refine (rcheck_any k i s _ hk).mono ?_
  rw [hfa]
  rintro e v1 ⟨rfl, hb⟩
  have H1 := Lib.hid (H0.out.kept hb)
  clear hb H0
  obtain ⟨s0, s1, s2, s3, s4, s5⟩ := H1.out.s (fun _ hx => hx)
  obtain ⟨⟨r0, r1, r2⟩, ⟨f0, f1, f2⟩, y2⟩ := H1.out.r (fun _ hx => hx)
  go_wp2_with fail
  refine (rcheck_any l j t _ hl).mono ?_
  rw [hfb]
  rintro e v2 ⟨rfl, hb⟩
  have H2 := Lib.hid (H1.out.kept hb)
  clear hb H1
  clear s0 s1 s2 s3 s4 s5 r0 r1 r2 f0 f1 f2 y2
  obtain ⟨s0, s1, s2, s3, s4, s5⟩ := H2.out.s (fun _ hx => hx)
  obtain ⟨⟨r0, r1, r2⟩, ⟨f0, f1, f2⟩, y2⟩ := H2.out.r (fun _ hx => hx)
  go_wp2_with fail
  exact bodyPost_ret (v := .tuple #[.agg #[.int .u8 0, .int .i64 0, .string ⟨#[]⟩], .int .i64 0]) (by simp [results, go_sem, r0, r1, r2]) rfl (gives_of rfl (below_set3 (b := w.heap.size + 1 + 1) H2.out.below (by omega) _ _ _))
set_option maxRecDepth 100000 in
set_option maxHeartbeats 4000000 in
theorem rtwo18_zz (k : Nat) (i : Int) (s : ByteArray) (l : Nat) (j : Int) (t : ByteArray) (hk : k < 256) (hl : l < 256) (w : World) (A0 : (((k : Nat) : Int) == 0) = false) (A1 : (((k : Nat) : Int) == 1) = true) (A2 : (((k : Nat) : Int) == 2) = false) (I0 : (i == 0) = true) (I1 : (i != 0) = false) (B0 : (((l : Nat) : Int) == 0) = false) (B1 : (((l : Nat) : Int) == 1) = true) (B2 : (((l : Nat) : Int) == 2) = false) (J0 : (j == 0) = true) (J1 : (j != 0) = false)  (hfa : Val.fine ⟨k, i, s⟩ = true) (hfb : Val.fine ⟨l, j, t⟩ = true) (hr : Val.two 18 ⟨k, i, s⟩ ⟨l, j, t⟩ = (⟨1, 0, ⟨#[]⟩⟩, 0)) :
    Calls Tryd.prog 9 #[.int .u8 18, .agg #[.int .u8 (k : Int), .int .i64 i, .string s], .agg #[.int .u8 (l : Int), .int .i64 j, .string t]] w (Gives (Val.two 18 ⟨k, i, s⟩ ⟨l, j, t⟩) w) := by
  rw [hr]
  clear hr
  have H0 := Lib.hid (base3 w k i s l j t)
  go_enter Tryd.func9, Tryd.ntmps9
  go_wp2_with fail
  generalize hW : World.alloc (World.alloc (World.alloc w _) _) _ = v0 at H0 ⊢
  clear hW
  refine (rcheck_any k i s _ hk).mono ?_
  rw [hfa]
  rintro e v1 ⟨rfl, hb⟩
  have H1 := Lib.hid (H0.out.kept hb)
  clear hb H0
  obtain ⟨s0, s1, s2, s3, s4, s5⟩ := H1.out.s (fun _ hx => hx)
  obtain ⟨⟨r0, r1, r2⟩, ⟨f0, f1, f2⟩, y2⟩ := H1.out.r (fun _ hx => hx)
  go_wp2_with fail
  refine (rcheck_any l j t _ hl).mono ?_
  rw [hfb]
  rintro e v2 ⟨rfl, hb⟩
  have H2 := Lib.hid (H1.out.kept hb)
  clear hb H1
  clear s0 s1 s2 s3 s4 s5 r0 r1 r2 f0 f1 f2 y2
  obtain ⟨s0, s1, s2, s3, s4, s5⟩ := H2.out.s (fun _ hx => hx)
  obtain ⟨⟨r0, r1, r2⟩, ⟨f0, f1, f2⟩, y2⟩ := H2.out.r (fun _ hx => hx)
  go_wp2_with fail
  refine (ryes_any _ _).mono ?_
  rintro e v3 ⟨rfl, hb⟩
  have H3 := Lib.hid (H2.out.kept hb)
  clear hb H2
  clear s0 s1 s2 s3 s4 s5 r0 r1 r2 f0 f1 f2 y2
  obtain ⟨s0, s1, s2, s3, s4, s5⟩ := H3.out.s (fun _ hx => hx)
  obtain ⟨⟨r0, r1, r2⟩, ⟨f0, f1, f2⟩, y2⟩ := H3.out.r (fun _ hx => hx)
  go_wp2_with fail
  exact bodyPost_ret (v := .tuple #[.agg #[.int .u8 1, .int .i64 0, .string ⟨#[]⟩], .int .i64 0]) (by simp [results, go_sem, r0, r1, r2, bitI]) rfl (gives_of rfl (below_set3 (b := w.heap.size + 1 + 1) H3.out.below (by omega) _ _ _))
set_option maxRecDepth 100000 in
set_option maxHeartbeats 4000000 in
theorem rtwo18_zo (k : Nat) (i : Int) (s : ByteArray) (l : Nat) (j : Int) (t : ByteArray) (hk : k < 256) (hl : l < 256) (w : World) (A0 : (((k : Nat) : Int) == 0) = false) (A1 : (((k : Nat) : Int) == 1) = true) (A2 : (((k : Nat) : Int) == 2) = false) (I0 : (i == 0) = true) (I1 : (i != 0) = false) (B0 : (((l : Nat) : Int) == 0) = false) (B1 : (((l : Nat) : Int) == 1) = true) (B2 : (((l : Nat) : Int) == 2) = false) (J0 : (j == 0) = false) (J1 : (j != 0) = true)  (hfa : Val.fine ⟨k, i, s⟩ = true) (hfb : Val.fine ⟨l, j, t⟩ = true) (hr : Val.two 18 ⟨k, i, s⟩ ⟨l, j, t⟩ = (⟨1, 1, ⟨#[]⟩⟩, 0)) :
    Calls Tryd.prog 9 #[.int .u8 18, .agg #[.int .u8 (k : Int), .int .i64 i, .string s], .agg #[.int .u8 (l : Int), .int .i64 j, .string t]] w (Gives (Val.two 18 ⟨k, i, s⟩ ⟨l, j, t⟩) w) := by
  rw [hr]
  clear hr
  have H0 := Lib.hid (base3 w k i s l j t)
  go_enter Tryd.func9, Tryd.ntmps9
  go_wp2_with fail
  generalize hW : World.alloc (World.alloc (World.alloc w _) _) _ = v0 at H0 ⊢
  clear hW
  refine (rcheck_any k i s _ hk).mono ?_
  rw [hfa]
  rintro e v1 ⟨rfl, hb⟩
  have H1 := Lib.hid (H0.out.kept hb)
  clear hb H0
  obtain ⟨s0, s1, s2, s3, s4, s5⟩ := H1.out.s (fun _ hx => hx)
  obtain ⟨⟨r0, r1, r2⟩, ⟨f0, f1, f2⟩, y2⟩ := H1.out.r (fun _ hx => hx)
  go_wp2_with fail
  refine (rcheck_any l j t _ hl).mono ?_
  rw [hfb]
  rintro e v2 ⟨rfl, hb⟩
  have H2 := Lib.hid (H1.out.kept hb)
  clear hb H1
  clear s0 s1 s2 s3 s4 s5 r0 r1 r2 f0 f1 f2 y2
  obtain ⟨s0, s1, s2, s3, s4, s5⟩ := H2.out.s (fun _ hx => hx)
  obtain ⟨⟨r0, r1, r2⟩, ⟨f0, f1, f2⟩, y2⟩ := H2.out.r (fun _ hx => hx)
  go_wp2_with fail
  refine (rint_any _ _).mono ?_
  rintro e v3 ⟨rfl, hb⟩
  have H3 := Lib.hid (H2.out.kept hb)
  clear hb H2
  clear s0 s1 s2 s3 s4 s5 r0 r1 r2 f0 f1 f2 y2
  obtain ⟨s0, s1, s2, s3, s4, s5⟩ := H3.out.s (fun _ hx => hx)
  obtain ⟨⟨r0, r1, r2⟩, ⟨f0, f1, f2⟩, y2⟩ := H3.out.r (fun _ hx => hx)
  go_wp2_with fail
  exact bodyPost_ret (v := .tuple #[.agg #[.int .u8 1, .int .i64 1, .string ⟨#[]⟩], .int .i64 0]) (by simp [results, go_sem, r0, r1, r2]) rfl (gives_of rfl (below_set3 (b := w.heap.size + 1 + 1) H3.out.below (by omega) _ _ _))
set_option maxRecDepth 100000 in
set_option maxHeartbeats 4000000 in
theorem rtwo18_on (k : Nat) (i : Int) (s : ByteArray) (l : Nat) (j : Int) (t : ByteArray) (hk : k < 256) (hl : l < 256) (w : World) (A0 : (((k : Nat) : Int) == 0) = false) (A1 : (((k : Nat) : Int) == 1) = true) (A2 : (((k : Nat) : Int) == 2) = false) (I0 : (i == 0) = false) (I1 : (i != 0) = true) (B0 : (((l : Nat) : Int) == 0) = true) (B1 : (((l : Nat) : Int) == 1) = false) (B2 : (((l : Nat) : Int) == 2) = false)  (hfa : Val.fine ⟨k, i, s⟩ = true) (hfb : Val.fine ⟨l, j, t⟩ = true) (hr : Val.two 18 ⟨k, i, s⟩ ⟨l, j, t⟩ = (⟨1, 1, ⟨#[]⟩⟩, 0)) :
    Calls Tryd.prog 9 #[.int .u8 18, .agg #[.int .u8 (k : Int), .int .i64 i, .string s], .agg #[.int .u8 (l : Int), .int .i64 j, .string t]] w (Gives (Val.two 18 ⟨k, i, s⟩ ⟨l, j, t⟩) w) := by
  rw [hr]
  clear hr
  have H0 := Lib.hid (base3 w k i s l j t)
  go_enter Tryd.func9, Tryd.ntmps9
  go_wp2_with fail
  generalize hW : World.alloc (World.alloc (World.alloc w _) _) _ = v0 at H0 ⊢
  clear hW
  refine (rcheck_any k i s _ hk).mono ?_
  rw [hfa]
  rintro e v1 ⟨rfl, hb⟩
  have H1 := Lib.hid (H0.out.kept hb)
  clear hb H0
  obtain ⟨s0, s1, s2, s3, s4, s5⟩ := H1.out.s (fun _ hx => hx)
  obtain ⟨⟨r0, r1, r2⟩, ⟨f0, f1, f2⟩, y2⟩ := H1.out.r (fun _ hx => hx)
  go_wp2_with fail
  refine (rcheck_any l j t _ hl).mono ?_
  rw [hfb]
  rintro e v2 ⟨rfl, hb⟩
  have H2 := Lib.hid (H1.out.kept hb)
  clear hb H1
  clear s0 s1 s2 s3 s4 s5 r0 r1 r2 f0 f1 f2 y2
  obtain ⟨s0, s1, s2, s3, s4, s5⟩ := H2.out.s (fun _ hx => hx)
  obtain ⟨⟨r0, r1, r2⟩, ⟨f0, f1, f2⟩, y2⟩ := H2.out.r (fun _ hx => hx)
  go_wp2_with fail
  refine (rint_any _ _).mono ?_
  rintro e v3 ⟨rfl, hb⟩
  have H3 := Lib.hid (H2.out.kept hb)
  clear hb H2
  clear s0 s1 s2 s3 s4 s5 r0 r1 r2 f0 f1 f2 y2
  obtain ⟨s0, s1, s2, s3, s4, s5⟩ := H3.out.s (fun _ hx => hx)
  obtain ⟨⟨r0, r1, r2⟩, ⟨f0, f1, f2⟩, y2⟩ := H3.out.r (fun _ hx => hx)
  go_wp2_with fail
  exact bodyPost_ret (v := .tuple #[.agg #[.int .u8 1, .int .i64 1, .string ⟨#[]⟩], .int .i64 0]) (by simp [results, go_sem, r0, r1, r2]) rfl (gives_of rfl (below_set3 (b := w.heap.size + 1 + 1) H3.out.below (by omega) _ _ _))
set_option maxRecDepth 100000 in
set_option maxHeartbeats 4000000 in
theorem rtwo18_oz (k : Nat) (i : Int) (s : ByteArray) (l : Nat) (j : Int) (t : ByteArray) (hk : k < 256) (hl : l < 256) (w : World) (A0 : (((k : Nat) : Int) == 0) = false) (A1 : (((k : Nat) : Int) == 1) = true) (A2 : (((k : Nat) : Int) == 2) = false) (I0 : (i == 0) = false) (I1 : (i != 0) = true) (B0 : (((l : Nat) : Int) == 0) = false) (B1 : (((l : Nat) : Int) == 1) = true) (B2 : (((l : Nat) : Int) == 2) = false) (J0 : (j == 0) = true) (J1 : (j != 0) = false)  (hfa : Val.fine ⟨k, i, s⟩ = true) (hfb : Val.fine ⟨l, j, t⟩ = true) (hr : Val.two 18 ⟨k, i, s⟩ ⟨l, j, t⟩ = (⟨1, 1, ⟨#[]⟩⟩, 0)) :
    Calls Tryd.prog 9 #[.int .u8 18, .agg #[.int .u8 (k : Int), .int .i64 i, .string s], .agg #[.int .u8 (l : Int), .int .i64 j, .string t]] w (Gives (Val.two 18 ⟨k, i, s⟩ ⟨l, j, t⟩) w) := by
  rw [hr]
  clear hr
  have H0 := Lib.hid (base3 w k i s l j t)
  go_enter Tryd.func9, Tryd.ntmps9
  go_wp2_with fail
  generalize hW : World.alloc (World.alloc (World.alloc w _) _) _ = v0 at H0 ⊢
  clear hW
  refine (rcheck_any k i s _ hk).mono ?_
  rw [hfa]
  rintro e v1 ⟨rfl, hb⟩
  have H1 := Lib.hid (H0.out.kept hb)
  clear hb H0
  obtain ⟨s0, s1, s2, s3, s4, s5⟩ := H1.out.s (fun _ hx => hx)
  obtain ⟨⟨r0, r1, r2⟩, ⟨f0, f1, f2⟩, y2⟩ := H1.out.r (fun _ hx => hx)
  go_wp2_with fail
  refine (rcheck_any l j t _ hl).mono ?_
  rw [hfb]
  rintro e v2 ⟨rfl, hb⟩
  have H2 := Lib.hid (H1.out.kept hb)
  clear hb H1
  clear s0 s1 s2 s3 s4 s5 r0 r1 r2 f0 f1 f2 y2
  obtain ⟨s0, s1, s2, s3, s4, s5⟩ := H2.out.s (fun _ hx => hx)
  obtain ⟨⟨r0, r1, r2⟩, ⟨f0, f1, f2⟩, y2⟩ := H2.out.r (fun _ hx => hx)
  go_wp2_with fail
  refine (rint_any _ _).mono ?_
  rintro e v3 ⟨rfl, hb⟩
  have H3 := Lib.hid (H2.out.kept hb)
  clear hb H2
  clear s0 s1 s2 s3 s4 s5 r0 r1 r2 f0 f1 f2 y2
  obtain ⟨s0, s1, s2, s3, s4, s5⟩ := H3.out.s (fun _ hx => hx)
  obtain ⟨⟨r0, r1, r2⟩, ⟨f0, f1, f2⟩, y2⟩ := H3.out.r (fun _ hx => hx)
  go_wp2_with fail
  exact bodyPost_ret (v := .tuple #[.agg #[.int .u8 1, .int .i64 1, .string ⟨#[]⟩], .int .i64 0]) (by simp [results, go_sem, r0, r1, r2]) rfl (gives_of rfl (below_set3 (b := w.heap.size + 1 + 1) H3.out.below (by omega) _ _ _))
set_option maxRecDepth 100000 in
set_option maxHeartbeats 4000000 in
theorem rtwo18_oo (k : Nat) (i : Int) (s : ByteArray) (l : Nat) (j : Int) (t : ByteArray) (hk : k < 256) (hl : l < 256) (w : World) (A0 : (((k : Nat) : Int) == 0) = false) (A1 : (((k : Nat) : Int) == 1) = true) (A2 : (((k : Nat) : Int) == 2) = false) (I0 : (i == 0) = false) (I1 : (i != 0) = true) (B0 : (((l : Nat) : Int) == 0) = false) (B1 : (((l : Nat) : Int) == 1) = true) (B2 : (((l : Nat) : Int) == 2) = false) (J0 : (j == 0) = false) (J1 : (j != 0) = true)  (hfa : Val.fine ⟨k, i, s⟩ = true) (hfb : Val.fine ⟨l, j, t⟩ = true) (hr : Val.two 18 ⟨k, i, s⟩ ⟨l, j, t⟩ = (⟨1, 1, ⟨#[]⟩⟩, 0)) :
    Calls Tryd.prog 9 #[.int .u8 18, .agg #[.int .u8 (k : Int), .int .i64 i, .string s], .agg #[.int .u8 (l : Int), .int .i64 j, .string t]] w (Gives (Val.two 18 ⟨k, i, s⟩ ⟨l, j, t⟩) w) := by
  rw [hr]
  clear hr
  have H0 := Lib.hid (base3 w k i s l j t)
  go_enter Tryd.func9, Tryd.ntmps9
  go_wp2_with fail
  generalize hW : World.alloc (World.alloc (World.alloc w _) _) _ = v0 at H0 ⊢
  clear hW
  refine (rcheck_any k i s _ hk).mono ?_
  rw [hfa]
  rintro e v1 ⟨rfl, hb⟩
  have H1 := Lib.hid (H0.out.kept hb)
  clear hb H0
  obtain ⟨s0, s1, s2, s3, s4, s5⟩ := H1.out.s (fun _ hx => hx)
  obtain ⟨⟨r0, r1, r2⟩, ⟨f0, f1, f2⟩, y2⟩ := H1.out.r (fun _ hx => hx)
  go_wp2_with fail
  refine (rcheck_any l j t _ hl).mono ?_
  rw [hfb]
  rintro e v2 ⟨rfl, hb⟩
  have H2 := Lib.hid (H1.out.kept hb)
  clear hb H1
  clear s0 s1 s2 s3 s4 s5 r0 r1 r2 f0 f1 f2 y2
  obtain ⟨s0, s1, s2, s3, s4, s5⟩ := H2.out.s (fun _ hx => hx)
  obtain ⟨⟨r0, r1, r2⟩, ⟨f0, f1, f2⟩, y2⟩ := H2.out.r (fun _ hx => hx)
  go_wp2_with fail
  refine (rint_any _ _).mono ?_
  rintro e v3 ⟨rfl, hb⟩
  have H3 := Lib.hid (H2.out.kept hb)
  clear hb H2
  clear s0 s1 s2 s3 s4 s5 r0 r1 r2 f0 f1 f2 y2
  obtain ⟨s0, s1, s2, s3, s4, s5⟩ := H3.out.s (fun _ hx => hx)
  obtain ⟨⟨r0, r1, r2⟩, ⟨f0, f1, f2⟩, y2⟩ := H3.out.r (fun _ hx => hx)
  go_wp2_with fail
  exact bodyPost_ret (v := .tuple #[.agg #[.int .u8 1, .int .i64 1, .string ⟨#[]⟩], .int .i64 0]) (by simp [results, go_sem, r0, r1, r2]) rfl (gives_of rfl (below_set3 (b := w.heap.size + 1 + 1) H3.out.below (by omega) _ _ _))
end
end Go.Proofs.YtjjfmmimmfihgaaDoor
