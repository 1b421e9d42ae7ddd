/-
  WHAT IS PROVED: the walk of the statement WordsNames.
-/
import Derived.Test.YtfdjeaieddcgdaaDoorWoO
import Derived.Test.YtfdjeaieddcgdaaDoorWoLaw
import Derived.Test.YtfdjeaieddcgdaaDoorWoNm
namespace Go.Proofs.YtfdjeaieddcgdaaDoor
open Go.RowKit Go.Shelf
set_option linter.unusedVariables false

theorem one_cells6 (s : ByteArray) (k : Nat) : (#[Value.int .u8 (k : Int), .string s, .int .i64 0, .int .i64 0] : Array Value).toList = cellsW [⟨k, s.data.toList, 0, 0⟩] := by
  simp [cellsW, WordM.cells4, strU_of]
theorem row_one (W : World) (s : ByteArray) : RowW (W.alloc (.cells #[.int .u8 1, .string s, .int .i64 0, .int .i64 0] 29)) (.slice (some ⟨W.heap.size, 0, none⟩) 1 1) [⟨1, s.data.toList, 0, 0⟩] :=
  RowW.of_lit (heap_alloc_new _ _) (one_cells6 s 1) (by simp) 1 rfl
theorem take_data (s : ByteArray) (k : Nat) : (s.extract 0 k).data.toList = s.data.toList.take k := by
  rw [Lib.extract_data, List.drop_zero, Nat.sub_zero]
theorem take_str (s : ByteArray) (k : Nat) : strU (s.data.toList.take k) = s.extract 0 k := by rw [← take_data, strU_of]
theorem behind_data (s : ByteArray) (c : UInt8) : (s ++ ⟨#[c]⟩).data.toList = s.data.toList ++ [c] := by simp
theorem behind_size (s : ByteArray) (c : UInt8) (h : s.size ≤ 2000) : (s ++ ⟨#[c]⟩).size ≤ 9223372036854775000 := by rw [← str_len, behind_data, List.length_append, str_len]; simp; omega
theorem ahead_data (s : ByteArray) (c : UInt8) : ((⟨#[c]⟩ : ByteArray) ++ s).data.toList = c :: s.data.toList := by simp
theorem ahead_size (s : ByteArray) (c : UInt8) (h : s.size ≤ 2000) : ((⟨#[c]⟩ : ByteArray) ++ s).size ≤ 9223372036854775000 := by rw [← str_len, ahead_data, List.length_cons, str_len]; omega

set_option maxRecDepth 100000 in
set_option maxHeartbeats 8000000 in
theorem names_0 (s : ByteArray) (w : World) (hw : Wo w) (ha : s.size ≤ 140737488351232) (hs : 2000 < s.size) :
    Calls Tryd.prog 8 #[.string s] w fun e w' => e = .returned (.bool true) ∧ Below w.heap.size w w' := by
  have HB0 := Lib.hid (Below.refl w.heap.size w)
  have HW0 := Lib.hid hw
  clear hw
  go_enter Tryd.func8, Tryd.ntmps8
  go_wp2_with fail
  refine (alive_yes6 _ HW0.out).mono ?_
  rintro e w1 ⟨rfl, hb1⟩
  have HB1 := Lib.hid (HB0.out.trans (hb1.mono HB0.out.size))
  have HW1 := Lib.hid (HW0.out.kept hb1)
  clear hb1
  go_wp2_with fail
  refine (alive_yes6 _ HW1.out).mono ?_
  rintro e w2 ⟨rfl, hb2⟩
  have HB2 := Lib.hid (HB1.out.trans (hb2.mono HB1.out.size))
  have HW2 := Lib.hid (HW1.out.kept hb2)
  clear hb2
  go_wp2_with fail
  go_ret
  exact ⟨rfl, HB2.out⟩

set_option maxRecDepth 100000 in
set_option maxHeartbeats 8000000 in
theorem names_1 (s : ByteArray) (w : World) (hw : Wo w) (hs : s.size ≤ 2000) (hn : nameB s.data.toList = false) :
    Calls Tryd.prog 8 #[.string s] w fun e w' => e = .returned (.bool true) ∧ Below w.heap.size w w' := by
  have h2 : ¬ 2000 < s.size := by omega
  have CN := fun w => name_yes s false hn w (by omega)
  clear hn
  have HB0 := Lib.hid (Below.refl w.heap.size w)
  have HW0 := Lib.hid hw
  clear hw
  go_enter Tryd.func8, Tryd.ntmps8
  go_wp2_with fail
  refine (alive_yes6 _ HW0.out).mono ?_
  rintro e w1 ⟨rfl, hb1⟩
  have HB1 := Lib.hid (HB0.out.trans (hb1.mono HB0.out.size))
  have HW1 := Lib.hid (HW0.out.kept hb1)
  clear hb1
  go_wp2_with fail
  refine (CN _).mono ?_
  rintro e w2 ⟨rfl, hb2⟩
  have HB2 := Lib.hid (HB1.out.trans (hb2.mono HB1.out.size))
  have HW2 := Lib.hid (HW1.out.kept hb2)
  clear hb2
  go_wp2_with fail
  refine (alive_yes6 _ HW2.out).mono ?_
  rintro e w3 ⟨rfl, hb3⟩
  have HB3 := Lib.hid (HB2.out.trans (hb3.mono HB2.out.size))
  have HW3 := Lib.hid (HW2.out.kept hb3)
  clear hb3
  go_wp2_with fail
  go_ret
  exact ⟨rfl, HB3.out⟩

set_option maxRecDepth 100000 in
set_option maxHeartbeats 8000000 in
theorem names_2 (s : ByteArray) (w : World) (hw : Wo w) (hs : s.size = 16) (h1 : 1 ≤ s.size) (hn : nameB s.data.toList = true) :
    Calls Tryd.prog 8 #[.string s] w fun e w' => e = .returned (.bool true) ∧ Below w.heap.size w w' := by
  have h2 : ¬ 2000 < s.size := by omega
  have hz1 : ¬ 9223372036854775807 < s.size + 1 := by omega
  have hz2 : ¬ 9223372036854775807 < 1 + s.size := by omega
  obtain ⟨G, hG⟩ : ∃ G, strU (s.data.toList.map greatB) = G := ⟨_, rfl⟩
  have hGd : G.data.toList = s.data.toList.map greatB := by rw [← hG, strU_data]
  have hGs : G.size = s.size := by rw [← hG, strU_size, List.length_map, str_len]
  have CN := fun w => name_yes s true hn w (by omega)
  have C1 := fun w hw => of_ok s [⟨1, s.data.toList, 0, 0⟩] (name_self hn) w hw
  have C2 := fun w hw => of_ok G [⟨1, s.data.toList, 0, 0⟩] (by rw [hGd]; exact (name_great hn).1) w hw
  have CG := fun w => name_yes G false (by rw [hGd]; exact (name_great hn).2) w (by omega)
  have CA := fun w => name_yes (s ++ ⟨#[32]⟩) false (by rw [behind_data]; exact name_blank _) w (behind_size _ _ (by omega))
  have CB := fun w => name_yes (⟨#[95]⟩ ++ s) false (by rw [ahead_data]; exact name_sign _ _ (by decide)) w (ahead_size _ _ (by omega))
  have CC := fun w => name_yes (⟨#[49]⟩ ++ s) false (by rw [ahead_data]; exact name_sign _ _ (by decide)) w (ahead_size _ _ (by omega))
  have CT := fun k (hk : 1 ≤ k) w hw => of_ok (s.extract 0 k) [⟨1, s.data.toList.take k, 0, 0⟩] (by rw [take_data]; exact name_one hn k hk) w hw
  have CX : ∀ v w, RowW w v [⟨1, s.data.toList, 0, 0⟩] → Calls Tryd.prog 13 #[v, .bool true] w fun e w' => e = .returned (.string G) ∧ Below w.heap.size w w' := fun v w h => by
    rw [← hG]
    have hf := name_fine hn s.data.toList.length (name_pos hn)
    rw [List.take_length] at hf
    exact text_any6 v [⟨1, s.data.toList, 0, 0⟩] true w h (fun x hx => by rw [List.mem_singleton.1 hx]; exact hf.can) (by show (s.data.toList.map greatB).length ≤ _; rw [List.length_map, str_len]; omega)
  clear hn hG hGd
  have HB0 := Lib.hid (Below.refl w.heap.size w)
  have HW0 := Lib.hid hw
  clear hw
  go_enter Tryd.func8, Tryd.ntmps8
  go_wp2_with fail
  refine (alive_yes6 _ HW0.out).mono ?_
  rintro e w1 ⟨rfl, hb1⟩
  have HB1 := Lib.hid (HB0.out.trans (hb1.mono HB0.out.size))
  have HW1 := Lib.hid (HW0.out.kept hb1)
  clear hb1
  go_wp2_with fail
  refine (CN _).mono ?_
  rintro e w2 ⟨rfl, hb2⟩
  have HB2 := Lib.hid (HB1.out.trans (hb2.mono HB1.out.size))
  have HW2 := Lib.hid (HW1.out.kept hb2)
  clear hb2
  go_wp2_with fail
  refine (C1 _ HW2.out).mono ?_
  rintro e w3 ⟨va, rfl, hra, hb3⟩
  have HB3 := Lib.hid (HB2.out.trans (hb3.mono HB2.out.size))
  have HW3 := Lib.hid (HW2.out.kept hb3)
  clear hb3
  obtain ⟨oa, ca, rfl, hna, hma⟩ := hra.slice
  have Ra := Lib.hid hra
  clear hra
  go_wp2_with fail
  refine (CX _ _ (row_one _ s)).mono ?_
  rintro e w4 ⟨rfl, hb4⟩
  have HB4 := Lib.hid (HB3.out.trans (((below_alloc _ _).trans (hb4.mono (by simp))).mono HB3.out.size))
  have HW4 := Lib.hid ((HW3.out.kept (below_alloc _ _)).kept hb4)
  have Ra' := Lib.hid ((Ra.out.kept (below_alloc _ _)).kept hb4)
  clear hb4
  go_wp2_with fail
  refine (C2 _ HW4.out).mono ?_
  rintro e w5 ⟨vb, rfl, hrb, hb5⟩
  have HB5 := Lib.hid (HB4.out.trans (hb5.mono HB4.out.size))
  have HW5 := Lib.hid (HW4.out.kept hb5)
  have Ra'' := Lib.hid (Ra'.out.kept hb5)
  clear hb5
  obtain ⟨ob, cb, rfl, hnb, hmb⟩ := hrb.slice
  have Rb := Lib.hid hrb
  clear hrb
  go_wp2_with fail
  refine (sameWords_same _ _ [⟨1, s.data.toList, 0, 0⟩] _ (Ra''.out.kept (below_alloc _ _)) (row_one _ s)).mono ?_
  rintro e w6 ⟨rfl, hb6⟩
  have HB6 := Lib.hid (HB5.out.trans (((below_alloc _ _).trans (hb6.mono (by simp))).mono HB5.out.size))
  have HW6 := Lib.hid ((HW5.out.kept (below_alloc _ _)).kept hb6)
  have Rc := Lib.hid ((row_one w5 s).kept hb6)
  have Ra''' := Lib.hid ((Ra''.out.kept (below_alloc _ _)).kept hb6)
  have Rb' := Lib.hid ((Rb.out.kept (below_alloc _ _)).kept hb6)
  clear hb6
  go_wp2_with fail
  refine (sameWords_same _ _ [⟨1, s.data.toList, 0, 0⟩] _ Rb'.out Rc.out).mono ?_
  rintro e w7 ⟨rfl, hb7⟩
  have HB7 := Lib.hid (HB6.out.trans (hb7.mono HB6.out.size))
  have HW7 := Lib.hid (HW6.out.kept hb7)
  have Ra'''' := Lib.hid (Ra'''.out.kept hb7)
  have Rb'' := Lib.hid (Rb'.out.kept hb7)
  have Rc' := Lib.hid (Rc.out.kept hb7)
  clear hb7
  go_wp2_with fail
  refine (CG _).mono ?_
  rintro e w8 ⟨rfl, hb8⟩
  have HB8 := Lib.hid (HB7.out.trans (hb8.mono HB7.out.size))
  have HW8 := Lib.hid (HW7.out.kept hb8)
  have Ra''''' := Lib.hid (Ra''''.out.kept hb8)
  have Rb''' := Lib.hid (Rb''.out.kept hb8)
  have Rc'' := Lib.hid (Rc'.out.kept hb8)
  clear hb8
  go_wp2_with fail
  refine (CA _).mono ?_
  rintro e w9 ⟨rfl, hb9⟩
  have HB9 := Lib.hid (HB8.out.trans (hb9.mono HB8.out.size))
  have HW9 := Lib.hid (HW8.out.kept hb9)
  have Ra'''''' := Lib.hid (Ra'''''.out.kept hb9)
  have Rb'''' := Lib.hid (Rb'''.out.kept hb9)
  have Rc''' := Lib.hid (Rc''.out.kept hb9)
  clear hb9
  go_wp2_with fail
  refine (CB _).mono ?_
  rintro e w10 ⟨rfl, hb10⟩
  have HB10 := Lib.hid (HB9.out.trans (hb10.mono HB9.out.size))
  have HW10 := Lib.hid (HW9.out.kept hb10)
  have Ra''''''' := Lib.hid (Ra''''''.out.kept hb10)
  have Rb''''' := Lib.hid (Rb''''.out.kept hb10)
  have Rc'''' := Lib.hid (Rc'''.out.kept hb10)
  clear hb10
  go_wp2_with fail
  refine (CC _).mono ?_
  rintro e w11 ⟨rfl, hb11⟩
  have HB11 := Lib.hid (HB10.out.trans (hb11.mono HB10.out.size))
  have HW11 := Lib.hid (HW10.out.kept hb11)
  have Ra'''''''' := Lib.hid (Ra'''''''.out.kept hb11)
  have Rb'''''' := Lib.hid (Rb'''''.out.kept hb11)
  have Rc''''' := Lib.hid (Rc''''.out.kept hb11)
  clear hb11
  go_wp2_with fail
  go_loopw [11] (fun kv wr => ∃ k : Nat, 1 ≤ k ∧ k ≤ s.size ∧ kv = .int .i64 k ∧ Hid (Below w11.heap.size w11 wr)) (fun kv _ => s.size - (intOf kv).toNat)
  case atStart => exact ⟨1, by omega, by omega, rfl, Lib.hid (Below.refl _ _)⟩
  case round =>
    obtain ⟨k, hk1, hk, rfl, HK⟩ := hrel
    by_cases hlt : k < s.size
    · have C := CT k hk1
      go_wp2_with fail
      refine (C _ (HW11.out.kept HK.out)).mono ?_
      rintro e wx ⟨vo, rfl, hro, hbo⟩
      have HKX := Lib.hid (below_next HK.out hbo)
      clear hbo
      obtain ⟨oo, co, rfl, hno, hmo⟩ := hro.slice
      have Ro := Lib.hid hro
      obtain ⟨g1, c1, e1, p0, p1, p2, p3⟩ := hro.lies (k := 0) (x := ⟨1, s.data.toList.take k, 0, 0⟩) rfl
      rw [take_str] at p1
      cases e1
      clear hro
      simp only [Nat.zero_mul, Nat.zero_add] at p0 p1 p2 p3
      have a1 := bwOf_cell wx _ _ p1
      clear p0 p1 p2 p3
      have mixed : Tryd.prog.follows .mixedOrders = true := by kernel_rfl
      go_wp2_with fail
      refine wp_region_bw (w := wx) (by kernel_rfl) (by kernel_rfl) ?_
      repeat (go_big_quiet_step (fail))
      refine wpQuiet_nil ?_
      rintro w7 ⟨m7, h7⟩
      have B7 : Hid (Below wx.heap.size wx w7) := by rw [h7]; exact bwOf_below wx m7
      clear h7
      go_wp2_with fail
      go_roundw
      case rel => exact ⟨k + 1, by omega, by omega, by go_num, Lib.hid (below_next HKX.out B7.out)⟩
      case measure => simp [RowKit.intOf]; omega
    · obtain rfl : k = s.size := by omega
      have HBK := Lib.hid (HB11.out.trans (HK.out.mono HB11.out.size))
      go_wp2_with fail
      go_ret
      exact ⟨rfl, HBK.out⟩

set_option maxRecDepth 100000 in
set_option maxHeartbeats 8000000 in
theorem names_3 (s : ByteArray) (w : World) (hw : Wo w) (hs : s.size < 16) (h1 : 1 ≤ s.size) (hn : nameB s.data.toList = true) :
    Calls Tryd.prog 8 #[.string s] w fun e w' => e = .returned (.bool true) ∧ Below w.heap.size w w' := by
  have h2 : ¬ 2000 < s.size := by omega
  have hz1 : ¬ 9223372036854775807 < s.size + 1 := by omega
  have hz2 : ¬ 9223372036854775807 < 1 + s.size := by omega
  obtain ⟨G, hG⟩ : ∃ G, strU (s.data.toList.map greatB) = G := ⟨_, rfl⟩
  have hGd : G.data.toList = s.data.toList.map greatB := by rw [← hG, strU_data]
  have hGs : G.size = s.size := by rw [← hG, strU_size, List.length_map, str_len]
  have CN := fun w => name_yes s true hn w (by omega)
  have C1 := fun w hw => of_ok s [⟨1, s.data.toList, 0, 0⟩] (name_self hn) w hw
  have C2 := fun w hw => of_ok G [⟨1, s.data.toList, 0, 0⟩] (by rw [hGd]; exact (name_great hn).1) w hw
  have CG := fun w => name_yes G false (by rw [hGd]; exact (name_great hn).2) w (by omega)
  have CA := fun w => name_yes (s ++ ⟨#[32]⟩) false (by rw [behind_data]; exact name_blank _) w (behind_size _ _ (by omega))
  have CB := fun w => name_yes (⟨#[95]⟩ ++ s) false (by rw [ahead_data]; exact name_sign _ _ (by decide)) w (ahead_size _ _ (by omega))
  have CC := fun w => name_yes (⟨#[49]⟩ ++ s) false (by rw [ahead_data]; exact name_sign _ _ (by decide)) w (ahead_size _ _ (by omega))
  have CT := fun k (hk : 1 ≤ k) w hw => of_ok (s.extract 0 k) [⟨1, s.data.toList.take k, 0, 0⟩] (by rw [take_data]; exact name_one hn k hk) w hw
  have CX : ∀ v w, RowW w v [⟨1, s.data.toList, 0, 0⟩] → Calls Tryd.prog 13 #[v, .bool true] w fun e w' => e = .returned (.string G) ∧ Below w.heap.size w w' := fun v w h => by
    rw [← hG]
    have hf := name_fine hn s.data.toList.length (name_pos hn)
    rw [List.take_length] at hf
    exact text_any6 v [⟨1, s.data.toList, 0, 0⟩] true w h (fun x hx => by rw [List.mem_singleton.1 hx]; exact hf.can) (by show (s.data.toList.map greatB).length ≤ _; rw [List.length_map, str_len]; omega)
  have CD := fun w => name_yes (s ++ ⟨#[95]⟩) true (by rw [behind_data]; exact name_more hn 95 (.inl rfl) (by rw [str_len]; exact hs)) w (behind_size _ _ (by omega))
  have CE := fun w => name_yes (s ++ ⟨#[48]⟩) true (by rw [behind_data]; exact name_more hn 48 (.inr rfl) (by rw [str_len]; exact hs)) w (behind_size _ _ (by omega))
  clear hn hG hGd
  have HB0 := Lib.hid (Below.refl w.heap.size w)
  have HW0 := Lib.hid hw
  clear hw
  go_enter Tryd.func8, Tryd.ntmps8
  go_wp2_with fail
  refine (alive_yes6 _ HW0.out).mono ?_
  rintro e w1 ⟨rfl, hb1⟩
  have HB1 := Lib.hid (HB0.out.trans (hb1.mono HB0.out.size))
  have HW1 := Lib.hid (HW0.out.kept hb1)
  clear hb1
  go_wp2_with fail
  refine (CN _).mono ?_
  rintro e w2 ⟨rfl, hb2⟩
  have HB2 := Lib.hid (HB1.out.trans (hb2.mono HB1.out.size))
  have HW2 := Lib.hid (HW1.out.kept hb2)
  clear hb2
  go_wp2_with fail
  refine (C1 _ HW2.out).mono ?_
  rintro e w3 ⟨va, rfl, hra, hb3⟩
  have HB3 := Lib.hid (HB2.out.trans (hb3.mono HB2.out.size))
  have HW3 := Lib.hid (HW2.out.kept hb3)
  clear hb3
  obtain ⟨oa, ca, rfl, hna, hma⟩ := hra.slice
  have Ra := Lib.hid hra
  clear hra
  go_wp2_with fail
  refine (CX _ _ (row_one _ s)).mono ?_
  rintro e w4 ⟨rfl, hb4⟩
  have HB4 := Lib.hid (HB3.out.trans (((below_alloc _ _).trans (hb4.mono (by simp))).mono HB3.out.size))
  have HW4 := Lib.hid ((HW3.out.kept (below_alloc _ _)).kept hb4)
  have Ra' := Lib.hid ((Ra.out.kept (below_alloc _ _)).kept hb4)
  clear hb4
  go_wp2_with fail
  refine (C2 _ HW4.out).mono ?_
  rintro e w5 ⟨vb, rfl, hrb, hb5⟩
  have HB5 := Lib.hid (HB4.out.trans (hb5.mono HB4.out.size))
  have HW5 := Lib.hid (HW4.out.kept hb5)
  have Ra'' := Lib.hid (Ra'.out.kept hb5)
  clear hb5
  obtain ⟨ob, cb, rfl, hnb, hmb⟩ := hrb.slice
  have Rb := Lib.hid hrb
  clear hrb
  go_wp2_with fail
  refine (sameWords_same _ _ [⟨1, s.data.toList, 0, 0⟩] _ (Ra''.out.kept (below_alloc _ _)) (row_one _ s)).mono ?_
  rintro e w6 ⟨rfl, hb6⟩
  have HB6 := Lib.hid (HB5.out.trans (((below_alloc _ _).trans (hb6.mono (by simp))).mono HB5.out.size))
  have HW6 := Lib.hid ((HW5.out.kept (below_alloc _ _)).kept hb6)
  have Rc := Lib.hid ((row_one w5 s).kept hb6)
  have Ra''' := Lib.hid ((Ra''.out.kept (below_alloc _ _)).kept hb6)
  have Rb' := Lib.hid ((Rb.out.kept (below_alloc _ _)).kept hb6)
  clear hb6
  go_wp2_with fail
  refine (sameWords_same _ _ [⟨1, s.data.toList, 0, 0⟩] _ Rb'.out Rc.out).mono ?_
  rintro e w7 ⟨rfl, hb7⟩
  have HB7 := Lib.hid (HB6.out.trans (hb7.mono HB6.out.size))
  have HW7 := Lib.hid (HW6.out.kept hb7)
  have Ra'''' := Lib.hid (Ra'''.out.kept hb7)
  have Rb'' := Lib.hid (Rb'.out.kept hb7)
  have Rc' := Lib.hid (Rc.out.kept hb7)
  clear hb7
  go_wp2_with fail
  refine (CG _).mono ?_
  rintro e w8 ⟨rfl, hb8⟩
  have HB8 := Lib.hid (HB7.out.trans (hb8.mono HB7.out.size))
  have HW8 := Lib.hid (HW7.out.kept hb8)
  have Ra''''' := Lib.hid (Ra''''.out.kept hb8)
  have Rb''' := Lib.hid (Rb''.out.kept hb8)
  have Rc'' := Lib.hid (Rc'.out.kept hb8)
  clear hb8
  go_wp2_with fail
  refine (CA _).mono ?_
  rintro e w9 ⟨rfl, hb9⟩
  have HB9 := Lib.hid (HB8.out.trans (hb9.mono HB8.out.size))
  have HW9 := Lib.hid (HW8.out.kept hb9)
  have Ra'''''' := Lib.hid (Ra'''''.out.kept hb9)
  have Rb'''' := Lib.hid (Rb'''.out.kept hb9)
  have Rc''' := Lib.hid (Rc''.out.kept hb9)
  clear hb9
  go_wp2_with fail
  refine (CB _).mono ?_
  rintro e w10 ⟨rfl, hb10⟩
  have HB10 := Lib.hid (HB9.out.trans (hb10.mono HB9.out.size))
  have HW10 := Lib.hid (HW9.out.kept hb10)
  have Ra''''''' := Lib.hid (Ra''''''.out.kept hb10)
  have Rb''''' := Lib.hid (Rb''''.out.kept hb10)
  have Rc'''' := Lib.hid (Rc'''.out.kept hb10)
  clear hb10
  go_wp2_with fail
  refine (CC _).mono ?_
  rintro e w11 ⟨rfl, hb11⟩
  have HB11 := Lib.hid (HB10.out.trans (hb11.mono HB10.out.size))
  have HW11 := Lib.hid (HW10.out.kept hb11)
  have Ra'''''''' := Lib.hid (Ra'''''''.out.kept hb11)
  have Rb'''''' := Lib.hid (Rb'''''.out.kept hb11)
  have Rc''''' := Lib.hid (Rc''''.out.kept hb11)
  clear hb11
  go_wp2_with fail
  go_loopw [11] (fun kv wr => ∃ k : Nat, 1 ≤ k ∧ k ≤ s.size ∧ kv = .int .i64 k ∧ Hid (Below w11.heap.size w11 wr)) (fun kv _ => s.size - (intOf kv).toNat)
  case atStart => exact ⟨1, by omega, by omega, rfl, Lib.hid (Below.refl _ _)⟩
  case round =>
    obtain ⟨k, hk1, hk, rfl, HK⟩ := hrel
    by_cases hlt : k < s.size
    · have C := CT k hk1
      go_wp2_with fail
      refine (C _ (HW11.out.kept HK.out)).mono ?_
      rintro e wx ⟨vo, rfl, hro, hbo⟩
      have HKX := Lib.hid (below_next HK.out hbo)
      clear hbo
      obtain ⟨oo, co, rfl, hno, hmo⟩ := hro.slice
      have Ro := Lib.hid hro
      obtain ⟨g1, c1, e1, p0, p1, p2, p3⟩ := hro.lies (k := 0) (x := ⟨1, s.data.toList.take k, 0, 0⟩) rfl
      rw [take_str] at p1
      cases e1
      clear hro
      simp only [Nat.zero_mul, Nat.zero_add] at p0 p1 p2 p3
      have a1 := bwOf_cell wx _ _ p1
      clear p0 p1 p2 p3
      have mixed : Tryd.prog.follows .mixedOrders = true := by kernel_rfl
      go_wp2_with fail
      refine wp_region_bw (w := wx) (by kernel_rfl) (by kernel_rfl) ?_
      repeat (go_big_quiet_step (fail))
      refine wpQuiet_nil ?_
      rintro w7 ⟨m7, h7⟩
      have B7 : Hid (Below wx.heap.size wx w7) := by rw [h7]; exact bwOf_below wx m7
      clear h7
      go_wp2_with fail
      go_roundw
      case rel => exact ⟨k + 1, by omega, by omega, by go_num, Lib.hid (below_next HKX.out B7.out)⟩
      case measure => simp [RowKit.intOf]; omega
    · obtain rfl : k = s.size := by omega
      have HBK := Lib.hid (HB11.out.trans (HK.out.mono HB11.out.size))
      go_wp2_with fail
      refine (CD _).mono ?_
      rintro e x1 ⟨rfl, hx1⟩
      have HX1 := Lib.hid (HBK.out.trans (hx1.mono HBK.out.size))
      clear hx1
      go_wp2_with fail
      refine (CE _).mono ?_
      rintro e x2 ⟨rfl, hx2⟩
      have HX2 := Lib.hid (HX1.out.trans (hx2.mono HX1.out.size))
      clear hx2
      go_wp2_with fail
      go_ret
      exact ⟨rfl, HX2.out⟩

theorem walk_WordsNames (s : ByteArray) (ha : s.size ≤ 140737488351232) {w : World} (hw : Wo w) :
    Calls Tryd.prog 8 #[.string s] w fun e w' => e = .returned (.bool true) ∧ Below w.heap.size w w' := by
  by_cases h : 2000 < s.size
  · exact names_0 s w hw ha h
  cases hn : nameB s.data.toList with
  | false => exact names_1 s w hw (by omega) hn
  | true =>
    have h1 := name_pos hn
    have h3 := (name_facts hn).2.2.1
    rw [str_len] at h1 h3
    by_cases h16 : s.size = 16
    · exact names_2 s w hw h16 h1 hn
    · exact names_3 s w hw (by omega) h1 hn
end Go.Proofs.YtfdjeaieddcgdaaDoor
