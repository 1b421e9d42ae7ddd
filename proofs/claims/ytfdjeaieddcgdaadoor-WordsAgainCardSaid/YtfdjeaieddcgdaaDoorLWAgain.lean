/-
  WHAT IS PROVED: the walk of the statement WordsAgain.
-/
import Derived.Test.YtfdjeaieddcgdaaDoorWoO
import Derived.Test.YtfdjeaieddcgdaaDoorWoLaw
namespace Go.Proofs.YtfdjeaieddcgdaaDoor
open Go.RowKit Go.Shelf
set_option linter.unusedVariables false

theorem ofB_at {s : List UInt8} {p e : Nat} (h : ofB s = .bad p e) : (p < s.length ∨ p = 0) ∧ e ≠ 0 := by
  by_cases hs : 4096 < s.length
  · rw [ofB_long s hs] at h; cases h; exact ⟨.inr rfl, by omega⟩
  · rw [ofB_lex, if_neg hs] at h
    exact ⟨.inl (by have := lexB_lt p e (s.length + 1) 0 0 s (by omega) h; omega), lexB_err _ _ _ _ _ h⟩

set_option maxRecDepth 100000 in
set_option maxHeartbeats 8000000 in
theorem again_0 (s : ByteArray) (w : World) (hw : Wo w) (ha : s.size ≤ 140737488351232) (h : 20000 < s.size) :
    Calls Tryd.prog 7 #[.string s] w fun e w' => e = .returned (.bool true) ∧ Below w.heap.size w w' := by
  have HB0 := Lib.hid (Below.refl w.heap.size w)
  have HW0 := Lib.hid hw
  clear hw
  go_enter Tryd.func7, Tryd.ntmps7
  go_wp2_with fail
  refine (alive_yes6 _ HW0.out).mono ?_
  rintro e w1 ⟨rfl, hb1⟩
  have HB1 := Lib.hid (HB0.out.trans (hb1.mono HB0.out.size))
  have HW1 := Lib.hid (HW0.out.kept hb1)
  clear hb1
  go_wp2_with fail
  refine (alive_yes6 _ HW1.out).mono ?_
  rintro e w2 ⟨rfl, hb2⟩
  have HB2 := Lib.hid (HB1.out.trans (hb2.mono HB1.out.size))
  have HW2 := Lib.hid (HW1.out.kept hb2)
  clear hb2
  go_wp2_with fail
  go_ret
  exact ⟨rfl, HB2.out⟩

set_option maxRecDepth 100000 in
set_option maxHeartbeats 8000000 in
theorem again_1 (s : ByteArray) (w : World) (hw : Wo w) (hs : s.size ≤ 20000) (p e : Nat) (hp : p < s.size) (he : e ≠ 0) (hb : ofB s.data.toList = .bad p e) :
    Calls Tryd.prog 7 #[.string s] w fun e w' => e = .returned (.bool true) ∧ Below w.heap.size w w' := by
  have h1 : ¬ 20000 < s.size := by omega
  have hne : ((e : Int) != 0) = true := by simp; omega
  have C1 := fun w hw => of_bad s p e hb w hw
  clear hb
  have HB0 := Lib.hid (Below.refl w.heap.size w)
  have HW0 := Lib.hid hw
  clear hw
  go_enter Tryd.func7, Tryd.ntmps7
  go_wp2_with fail
  refine (alive_yes6 _ HW0.out).mono ?_
  rintro e w1 ⟨rfl, hb1⟩
  have HB1 := Lib.hid (HB0.out.trans (hb1.mono HB0.out.size))
  have HW1 := Lib.hid (HW0.out.kept hb1)
  clear hb1
  go_wp2_with fail
  refine (C1 _ HW1.out).mono ?_
  rintro e w2 ⟨oa, ca, rfl, hb2⟩
  have HB2 := Lib.hid (HB1.out.trans (hb2.mono HB1.out.size))
  have HW2 := Lib.hid (HW1.out.kept hb2)
  clear hb2
  go_wp2_with fail
  all_goals
    go_ret
    exact ⟨by simp_all, HB2.out⟩

set_option maxRecDepth 100000 in
set_option maxHeartbeats 8000000 in
theorem again_2 (s : ByteArray) (w : World) (hw : Wo w) (hs : s.size ≤ 20000) (e : Nat) (h0 : s.size = 0 ∨ 0 < s.size) (he : e ≠ 0) (hb : ofB s.data.toList = .bad 0 e) :
    Calls Tryd.prog 7 #[.string s] w fun e w' => e = .returned (.bool true) ∧ Below w.heap.size w w' := by
  have h1 : ¬ 20000 < s.size := by omega
  have hne : ((e : Int) != 0) = true := by simp; omega
  have C1 := fun w hw => of_bad s 0 e hb w hw
  clear hb
  have HB0 := Lib.hid (Below.refl w.heap.size w)
  have HW0 := Lib.hid hw
  clear hw
  go_enter Tryd.func7, Tryd.ntmps7
  go_wp2_with fail
  refine (alive_yes6 _ HW0.out).mono ?_
  rintro e w1 ⟨rfl, hb1⟩
  have HB1 := Lib.hid (HB0.out.trans (hb1.mono HB0.out.size))
  have HW1 := Lib.hid (HW0.out.kept hb1)
  clear hb1
  go_wp2_with fail
  refine (C1 _ HW1.out).mono ?_
  rintro e w2 ⟨oa, ca, rfl, hb2⟩
  have HB2 := Lib.hid (HB1.out.trans (hb2.mono HB1.out.size))
  have HW2 := Lib.hid (HW1.out.kept hb2)
  clear hb2
  go_wp2_with fail
  all_goals
    go_ret
    exact ⟨by simp_all, HB2.out⟩

set_option maxRecDepth 100000 in
set_option maxHeartbeats 8000000 in
theorem again_3 (s : ByteArray) (w : World) (hw : Wo w) (hs : s.size ≤ 20000) (l : List WordM) (hb : ofB s.data.toList = .ok l) (ht : 4096 < (textL false l).length) :
    Calls Tryd.prog 7 #[.string s] w fun e w' => e = .returned (.bool true) ∧ Below w.heap.size w w' := by
  have h1 : ¬ 20000 < s.size := by omega
  have C1 := fun w hw => of_ok s l hb w hw
  have HRISE := Lib.hid (ofB_rise hb)
  have hll := ofB_len hb
  have hfw := ofB_fine hb
  have hbd : ∀ g, (textL g l).length ≤ 1000000000 := fun g => by have := textL_bound g l hfw; omega
  have hcan : ∀ x ∈ l, CanW x := fun x hx => (hfw x hx).can
  have TX := fun v g w h => text_any6 v l g w h hcan (hbd g)
  have hT1 : 4096 < (strU (textL false l)).size := by rw [strU_size]; exact ht
  have C2 := fun w hw => bad_yes (strU (textL false l)) 0 3 (by rw [strU_data]; exact ofB_long _ ht) w hw
  clear ht
  obtain ⟨n, hn⟩ : ∃ n, l.length = n := ⟨_, rfl⟩
  have HN := Lib.hid hn
  clear hb hfw hbd hcan
  rw [hn] at hll
  clear hn
  have HB0 := Lib.hid (Below.refl w.heap.size w)
  have HW0 := Lib.hid hw
  clear hw
  go_enter Tryd.func7, Tryd.ntmps7
  go_wp2_with fail
  refine (alive_yes6 _ HW0.out).mono ?_
  rintro e w1 ⟨rfl, hb1⟩
  have HB1 := Lib.hid (HB0.out.trans (hb1.mono HB0.out.size))
  have HW1 := Lib.hid (HW0.out.kept hb1)
  clear hb1
  go_wp2_with fail
  refine (C1 _ HW1.out).mono ?_
  rintro e w2 ⟨va, rfl, hra, hb2⟩
  obtain ⟨oa, ca, rfl, hna, hma⟩ := hra.slice
  rw [HN.out] at hra hna ⊢
  have RA := Lib.hid hra
  have HB2 := Lib.hid (HB1.out.trans (hb2.mono HB1.out.size))
  have HW2 := Lib.hid (HW1.out.kept hb2)
  clear hra hb2
  go_wp2_with fail
  go_loop [6, 7] (fun lv iv => ∃ (i : Nat) (z : Int), i ≤ n ∧ iv = .int .i64 i ∧ lv = .int .i64 z ∧ -1 ≤ z ∧ z ≤ 20000 ∧ Hid (∀ x, l[i]? = some x → z < (x.pos : Int))) (fun _ iv => n - (intOf iv).toNat)
  case atStart => exact ⟨0, -1, by omega, rfl, rfl, by omega, by omega, Lib.hid (fun x _ => by omega)⟩
  case round =>
    obtain ⟨i, z, hi, rfl, rfl, hz1, hz2, HZ⟩ := hrel
    by_cases hlt : i < n
    · obtain ⟨x, hx⟩ : ∃ x, l[i]? = some x := ⟨l[i]'(by rw [HN.out]; exact hlt), by simp [HN.out, hlt]⟩
      obtain ⟨g1, c1, e1, p0, p1, p2, p3⟩ := RA.out.lies hx
      rw [HN.out] at e1
      cases e1
      obtain ⟨r1, r2⟩ := HRISE.out i x hx
      rw [str_len] at r1
      have hzx := HZ.out x hx
      have R2 := Lib.hid r2
      obtain ⟨k, t, ii, p⟩ := x
      dsimp only at p0 p1 p2 p3 r1 hzx R2
      clear hx r2 p0 p1 p2
      go_wp2_with fail
      go_round
      case rel => exact ⟨i + 1, p, by omega, by go_num, rfl, by omega, by omega, Lib.hid (fun v hv => by have := R2.out v hv; omega)⟩
      case measure => simp [intOf]; omega
    · obtain rfl : i = n := by omega
      go_wp2_with fail
      refine (TX _ false _ RA.out).mono ?_
      rintro e w3 ⟨rfl, hb3⟩
      have HB3 := Lib.hid (HB2.out.trans (hb3.mono HB2.out.size))
      have HW3 := Lib.hid (HW2.out.kept hb3)
      have RA' := Lib.hid (RA.out.kept hb3)
      clear hb3
      go_wp2_with fail
      refine (TX _ true _ RA'.out).mono ?_
      rintro e w4 ⟨rfl, hb4⟩
      have HB4 := Lib.hid (HB3.out.trans (hb4.mono HB3.out.size))
      have HW4 := Lib.hid (HW3.out.kept hb4)
      have RA'' := Lib.hid (RA'.out.kept hb4)
      clear hb4
      go_wp2_with fail
      refine (C2 _ HW4.out).mono ?_
      rintro e w5 ⟨rfl, hb5⟩
      have HB5 := Lib.hid (HB4.out.trans (hb5.mono HB4.out.size))
      have HW5 := Lib.hid (HW4.out.kept hb5)
      have RA''' := Lib.hid (RA''.out.kept hb5)
      clear hb5
      go_wp2_with fail
      go_ret
      exact ⟨rfl, HB5.out⟩

set_option maxRecDepth 100000 in
set_option maxHeartbeats 8000000 in
theorem again_4 (s : ByteArray) (w : World) (hw : Wo w) (hs : s.size ≤ 20000) (l : List WordM) (hb : ofB s.data.toList = .ok l) (ht : (textL false l).length ≤ 4096) (m q : List WordM) (hm : ofB (textL false l) = .ok m) (hq : ofB (textL true l) = .ok q) (a1 : Alike l m) (a2 : Alike l q) :
    Calls Tryd.prog 7 #[.string s] w fun e w' => e = .returned (.bool true) ∧ Below w.heap.size w w' := by
  have h1 : ¬ 20000 < s.size := by omega
  have C1 := fun w hw => of_ok s l hb w hw
  have HRISE := Lib.hid (ofB_rise hb)
  have hll := ofB_len hb
  have hfw := ofB_fine hb
  have hbd : ∀ g, (textL g l).length ≤ 1000000000 := fun g => by have := textL_bound g l hfw; omega
  have hcan : ∀ x ∈ l, CanW x := fun x hx => (hfw x hx).can
  have TX := fun v g w h => text_any6 v l g w h hcan (hbd g)
  have hT1 : ¬ 4096 < (strU (textL false l)).size := by rw [strU_size]; omega
  have C2 := fun w hw => of_ok (strU (textL false l)) m (by rw [strU_data]; exact hm) w hw
  have C3 := fun w hw => of_ok (strU (textL true l)) q (by rw [strU_data]; exact hq) w hw
  clear ht hm hq
  obtain ⟨n, hn⟩ : ∃ n, l.length = n := ⟨_, rfl⟩
  have HN := Lib.hid hn
  clear hb hfw hbd hcan
  rw [hn] at hll
  clear hn
  have HB0 := Lib.hid (Below.refl w.heap.size w)
  have HW0 := Lib.hid hw
  clear hw
  go_enter Tryd.func7, Tryd.ntmps7
  go_wp2_with fail
  refine (alive_yes6 _ HW0.out).mono ?_
  rintro e w1 ⟨rfl, hb1⟩
  have HB1 := Lib.hid (HB0.out.trans (hb1.mono HB0.out.size))
  have HW1 := Lib.hid (HW0.out.kept hb1)
  clear hb1
  go_wp2_with fail
  refine (C1 _ HW1.out).mono ?_
  rintro e w2 ⟨va, rfl, hra, hb2⟩
  obtain ⟨oa, ca, rfl, hna, hma⟩ := hra.slice
  rw [HN.out] at hra hna ⊢
  have RA := Lib.hid hra
  have HB2 := Lib.hid (HB1.out.trans (hb2.mono HB1.out.size))
  have HW2 := Lib.hid (HW1.out.kept hb2)
  clear hra hb2
  go_wp2_with fail
  go_loop [6, 7] (fun lv iv => ∃ (i : Nat) (z : Int), i ≤ n ∧ iv = .int .i64 i ∧ lv = .int .i64 z ∧ -1 ≤ z ∧ z ≤ 20000 ∧ Hid (∀ x, l[i]? = some x → z < (x.pos : Int))) (fun _ iv => n - (intOf iv).toNat)
  case atStart => exact ⟨0, -1, by omega, rfl, rfl, by omega, by omega, Lib.hid (fun x _ => by omega)⟩
  case round =>
    obtain ⟨i, z, hi, rfl, rfl, hz1, hz2, HZ⟩ := hrel
    by_cases hlt : i < n
    · obtain ⟨x, hx⟩ : ∃ x, l[i]? = some x := ⟨l[i]'(by rw [HN.out]; exact hlt), by simp [HN.out, hlt]⟩
      obtain ⟨g1, c1, e1, p0, p1, p2, p3⟩ := RA.out.lies hx
      rw [HN.out] at e1
      cases e1
      obtain ⟨r1, r2⟩ := HRISE.out i x hx
      rw [str_len] at r1
      have hzx := HZ.out x hx
      have R2 := Lib.hid r2
      obtain ⟨k, t, ii, p⟩ := x
      dsimp only at p0 p1 p2 p3 r1 hzx R2
      clear hx r2 p0 p1 p2
      go_wp2_with fail
      go_round
      case rel => exact ⟨i + 1, p, by omega, by go_num, rfl, by omega, by omega, Lib.hid (fun v hv => by have := R2.out v hv; omega)⟩
      case measure => simp [intOf]; omega
    · obtain rfl : i = n := by omega
      go_wp2_with fail
      refine (TX _ false _ RA.out).mono ?_
      rintro e w3 ⟨rfl, hb3⟩
      have HB3 := Lib.hid (HB2.out.trans (hb3.mono HB2.out.size))
      have HW3 := Lib.hid (HW2.out.kept hb3)
      have RA' := Lib.hid (RA.out.kept hb3)
      clear hb3
      go_wp2_with fail
      refine (TX _ true _ RA'.out).mono ?_
      rintro e w4 ⟨rfl, hb4⟩
      have HB4 := Lib.hid (HB3.out.trans (hb4.mono HB3.out.size))
      have HW4 := Lib.hid (HW3.out.kept hb4)
      have RA'' := Lib.hid (RA'.out.kept hb4)
      clear hb4
      go_wp2_with fail
      refine (C2 _ HW4.out).mono ?_
      rintro e w5 ⟨vb, rfl, hrb, hb5⟩
      have HB5 := Lib.hid (HB4.out.trans (hb5.mono HB4.out.size))
      have HW5 := Lib.hid (HW4.out.kept hb5)
      have RA''' := Lib.hid (RA''.out.kept hb5)
      clear hb5
      obtain ⟨ob, cb, rfl, hnb, hmb⟩ := hrb.slice
      have Rb := Lib.hid hrb
      clear hrb
      go_wp2_with fail
      refine (C3 _ HW5.out).mono ?_
      rintro e w6 ⟨vc, rfl, hrc, hb6⟩
      have HB6 := Lib.hid (HB5.out.trans (hb6.mono HB5.out.size))
      have HW6 := Lib.hid (HW5.out.kept hb6)
      have RA'''' := Lib.hid (RA'''.out.kept hb6)
      have Rb' := Lib.hid (Rb.out.kept hb6)
      clear hb6
      obtain ⟨oc, cc, rfl, hnc, hmc⟩ := hrc.slice
      have Rc := Lib.hid hrc
      clear hrc
      go_wp2_with fail
      refine (alike_yes _ _ _ _ a1 _ RA''''.out Rb'.out).mono ?_
      rintro e w7 ⟨rfl, hb7⟩
      have HB7 := Lib.hid (HB6.out.trans (hb7.mono HB6.out.size))
      have HW7 := Lib.hid (HW6.out.kept hb7)
      have RA''''' := Lib.hid (RA''''.out.kept hb7)
      have Rb'' := Lib.hid (Rb'.out.kept hb7)
      have Rc' := Lib.hid (Rc.out.kept hb7)
      clear hb7
      go_wp2_with fail
      refine (alike_yes _ _ _ _ a2 _ RA'''''.out Rc'.out).mono ?_
      rintro e w8 ⟨rfl, hb8⟩
      have HB8 := Lib.hid (HB7.out.trans (hb8.mono HB7.out.size))
      have HW8 := Lib.hid (HW7.out.kept hb8)
      have RA'''''' := Lib.hid (RA'''''.out.kept hb8)
      have Rb''' := Lib.hid (Rb''.out.kept hb8)
      have Rc'' := Lib.hid (Rc'.out.kept hb8)
      clear hb8
      go_wp2_with fail
      go_ret
      exact ⟨rfl, HB8.out⟩

theorem walk_WordsAgain (s : ByteArray) (ha : s.size ≤ 140737488351232) {w : World} (hw : Wo w) :
    Calls Tryd.prog 7 #[.string s] w fun e w' => e = .returned (.bool true) ∧ Below w.heap.size w w' := by
  by_cases h1 : 20000 < s.size
  · exact again_0 s w hw ha h1
  cases hm : ofB s.data.toList with
  | bad p e =>
    obtain ⟨h2, he⟩ := ofB_at hm
    rw [str_len] at h2
    rcases h2 with h2 | rfl
    · exact again_1 s w hw (by omega) p e h2 he hm
    · exact again_2 s w hw (by omega) e (by omega) he hm
  | ok l =>
    by_cases ht : 4096 < (textL false l).length
    · exact again_3 s w hw (by omega) l hm ht
    · obtain ⟨m, h2, h3⟩ := again_ok _ l false hm (by omega)
      obtain ⟨q, h4, h5⟩ := again_ok _ l true hm (by rw [textL_same]; omega)
      exact again_4 s w hw (by omega) l hm (by omega) m q h2 h4 h3 h5
end Go.Proofs.YtfdjeaieddcgdaaDoor
