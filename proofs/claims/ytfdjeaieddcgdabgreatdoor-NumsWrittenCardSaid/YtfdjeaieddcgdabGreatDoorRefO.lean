/-
  WHAT IS PROVED: what the reference writes, as memory of the call's own: a number, one with a sign, a text.
-/
import Derived.Test.YtfdjeaieddcgdabGreatDoorRefA
import Derived.Test.YtfdjeaieddcgdabGreatDoorNumsO
import Derived.Test.YtfdjeaieddcgdabGreatDoorBkGrow
import Derived.Lib.AppendStr
namespace Go.Proofs.YtfdjeaieddcgdabGreatDoor
open Go.RowKit
set_option linter.unusedVariables false

set_option maxRecDepth 100000 in
set_option maxHeartbeats 4000000 in
theorem refPutO_any (ao : Option Addr) (n cap : Nat) (l : List Nat) (m : Nat) (hm : m < 18446744073709551616) (w : World) (hr : Row8 w ao n cap l) (hn : n ≤ 4294967296) :
    Calls Tryz.prog 56 #[.slice ao n cap, .int .u64 (m : Int)] w (NewO w (l ++ vb m)) := by
  obtain ⟨i0, hi, hz0, hz1, hz2⟩ := info_parts Tryz.info8
  have HR := Lib.hid hr
  have hlen := Lib.hid hr.len
  have hbyte := Lib.hid hr.byte
  have hnil : w.ownsRow w.heap.size 5 1 (.slice none 0 0) 0 (cells8 []) := World.ownsRow_nil w w.heap.size 5 1
  have hl10 : (dg m).length ≤ 10 := by rw [dg_len]; exact vb_len64 hm
  have hlp : 0 < (dg m).length := by rw [dg_len]; exact vb_pos m
  clear hr
  go_enter Tryz.func56, Tryz.ntmps56
  go_wp2_with (at_builtin; refine wpList_append_row rfl (.const (.slice none 0 0)) (.tmp 8) rfl w.heap.size _ 0 [] rfl hnil ao n cap l rfl HR.out (by omega) (Nat.le_refl _) ?_)
  intro v0 w0 hown0 hg0
  have hb0 : Below w.heap.size w w0 := (Below.refl w.heap.size w).grown hg0 (Nat.le_refl _) (fun k hk => by simp [Value.ownBlock] at hk)
  have HO := Lib.hid hown0
  have HB0 := Lib.hid hb0
  clear hown0 hb0 hnil hg0
  go_wp2_with fail
  refine (dig_any m w0 hm).mono ?_
  rintro e w1 ⟨g, cd, rfl, hd1, hb1, hc1, hc2⟩
  have HO1 := Lib.hid (HO.out.kept (grown_of_below hb1) (by cases v0.ownBlock <;> simp))
  have HB1 := Lib.hid (below_next HB0.out hb1)
  have HD1 := Lib.hid hd1
  obtain ⟨q, hq⟩ : ∃ q, q = (dg m).length := ⟨_, rfl⟩
  rw [← hq] at hl10 hlp hc1 HD1 ⊢
  have HQ := Lib.hid hq
  clear hd1 hb1 hq HO
  have hgw : w.heap.size ≤ g := (by have := (HD1.out.lt g rfl).1; have := HB0.out.size; omega)
  have HL0 : Hid (w1.ownsRow w.heap.size 104 1 (.slice (some ⟨g, 0, none⟩) q cd) q (cells64 (dg m))) := own_base HD1.out HB0.out.size
  go_wp2
  go_loopw [5, 7] (fun v i wr => ∃ k : Nat, k ≤ q ∧ i = .int .i64 k ∧ RpRel w l m g q cd k v wr) (fun _ i _ => q - (intOf i).toNat)
  case atStart => exact ⟨0, by omega, rfl, by simpa [hlen.out] using HO1.out, by simpa using HL0.out, HB1.out⟩
  case round =>
    obtain ⟨k, hk, rfl, hO', hL', hbel'⟩ := hrel
    have hO := Lib.hid hO'
    have hL := Lib.hid hL'
    have hbel := Lib.hid hbel'
    clear hO' hL' hbel'
    have hkl : ((vb m).take k).length ≤ 10 := by have := List.length_take_le k (vb m); omega
    have hlk : (l ++ (vb m).take k).length ≤ 4294967306 := by rw [List.length_append, hlen.out]; omega
    by_cases hlt : k < q
    · obtain ⟨d, hd⟩ : ∃ d, (dg m)[k]? = some d := ⟨(dg m)[k]'(by rw [← HQ.out]; exact hlt), by rw [List.getElem?_eq_getElem]⟩
      have hd2 := dg_get m k d hd
      have hd128 := hd2.1
      have hLk : ((vb m).take k ++ (dg m).drop k)[k]? = some d := by
        have e : ((vb m).take k).length = k := by rw [List.length_take, ← dg_len, ← HQ.out]; omega
        rw [List.getElem?_append_right (by omega), e, Nat.sub_self, List.getElem?_drop]; exact hd
      have hc : wr.cell? ⟨g, k, none⟩ = some (.int .u64 (d : Int)) := (hL.out.cellAt k (by omega)).trans (cells64_get _ _ _ hLk)
      have hf := hL.out.frozenAt k
      have HD := Lib.hid hd
      clear hLk hd
      by_cases hlast : k + 1 < q
      · have hvx := hd2.2.1 (by rw [← HQ.out]; exact hlast)
        have hc2 := World.cell?_setCell_same wr ⟨g, k, none⟩ (.int .u64 ((d : Int) + 128)) hc
        have hst := hL.out.stored k (.int .u64 ((d : Int) + 128))
        have hoS := Lib.hid (hO.out.kept hst.2 (own_ne_own hO.out hL.out (by decide)))
        have hLS := Lib.hid hst.1
        have hbS : Below w.heap.size w (wr.setCell ⟨g, k, none⟩ (.int .u64 ((d : Int) + 128))) := hbel.out.setCell hgw _
        have hsz : (wr.setCell ⟨g, k, none⟩ (.int .u64 ((d : Int) + 128))).heap.size = wr.heap.size := by simp
        have hrow : Row8 ((wr.setCell ⟨g, k, none⟩ (.int .u64 ((d : Int) + 128))).alloc (.cells #[.int .u8 ((d : Int) + 128)] 5)) (some ⟨wr.heap.size, 0, none⟩) 1 1 [d + 128] := row_new (wr.setCell ⟨g, k, none⟩ (.int .u64 ((d : Int) + 128))) [d + 128] 1 wr.heap.size (0, 0) hsz rfl (by intro x hx; simp at hx; omega) (by omega)
        have HRow := Lib.hid hrow
        have HX := Lib.hid hvx
        have HbS := Lib.hid hbS
        clear hrow hvx hsz hbS hd2 hst
        go_wp2_with (at_builtin; refine wpList_append_row rfl (.tmp 31) (.tmp 37) rfl w.heap.size _ _ _ rfl (hoS.out.alloc _) (some ⟨wr.heap.size, 0, none⟩) 1 1 [d + 128] rfl HRow.out (by omega) (by have := hbel.out.size; simp; omega) ?_)
        intro v' w2 hown2 hg2
        have hg3 : (wr.setCell ⟨g, k, none⟩ (.int .u64 ((d : Int) + 128))).grownBy w2 u5.ownBlock := grown_trans (World.grownBy_alloc _ _ _) hg2
        have hR : RpRel w l m g q cd (k + 1) v' w2 := by
          refine ⟨?_, ?_, ?_⟩
          · have e : l ++ (vb m).take (k + 1) = l ++ (vb m).take k ++ [d + 128] := by rw [List.take_add_one, HX.out]; simp
            have e2 : (l ++ (vb m).take (k + 1)).length = l.length + min k (vb m).length + 1 := by rw [e, List.length_append, List.length_append, List.length_take]; rfl
            rw [e2, e, List.append_assoc]
            exact hown2
          · rw [← set_step (vb m) (dg m) k (d + 128) (by rw [← HQ.out]; exact hlt) (dg_len m).symm HX.out, ← cells64_set]
            exact hLS.out.kept hg3 (.inr (by
              rcases own_ne_own hO.out hL.out (by decide) with h | h
              · rw [h]; simp [Value.ownBlock]
              · exact fun h2 => h h2.symm))
          · exact HbS.out.grown hg3 (HbS.out.size) (fun j hj => (hO.out.lt j hj).1)
        go_wp2
        go_roundw
        case rel => exact ⟨k + 1, by omega, by go_num, hR⟩
        case measure => simp [intOf]; omega
      · have hvx := hd2.2.2 (by rw [← HQ.out]; exact hlast)
        have hoS := hO
        have hLS := hL
        have hbS := hbel.out
        have hsz : wr.heap.size = wr.heap.size := by simp
        have hrow : Row8 (wr.alloc (.cells #[.int .u8 ((d : Int))] 5)) (some ⟨wr.heap.size, 0, none⟩) 1 1 [d] := row_new wr [d] 1 wr.heap.size (0, 0) hsz rfl (by intro x hx; simp at hx; omega) (by omega)
        have HRow := Lib.hid hrow
        have HX := Lib.hid hvx
        have HbS := Lib.hid hbS
        clear hrow hvx hsz hbS hd2 
        go_wp2_with (at_builtin; refine wpList_append_row rfl (.tmp 31) (.tmp 37) rfl w.heap.size _ _ _ rfl (hoS.out.alloc _) (some ⟨wr.heap.size, 0, none⟩) 1 1 [d] rfl HRow.out (by omega) (by have := hbel.out.size; simp; omega) ?_)
        intro v' w2 hown2 hg2
        have hg3 : wr.grownBy w2 u5.ownBlock := grown_trans (World.grownBy_alloc _ _ _) hg2
        have hR : RpRel w l m g q cd (k + 1) v' w2 := by
          refine ⟨?_, ?_, ?_⟩
          · have e : l ++ (vb m).take (k + 1) = l ++ (vb m).take k ++ [d] := by rw [List.take_add_one, HX.out]; simp
            have e2 : (l ++ (vb m).take (k + 1)).length = l.length + min k (vb m).length + 1 := by rw [e, List.length_append, List.length_append, List.length_take]; rfl
            rw [e2, e, List.append_assoc]
            exact hown2
          · have e : (vb m).take (k + 1) ++ (dg m).drop (k + 1) = (vb m).take k ++ (dg m).drop k := by
              rw [List.take_add_one, HX.out, List.drop_eq_getElem_cons (show k < (dg m).length by rw [← HQ.out]; exact hlt)]
              have := (List.getElem?_eq_some_iff.1 HD.out).2
              rw [this]; simp
            rw [e]
            exact hLS.out.kept hg3 (.inr (by
              rcases own_ne_own hO.out hL.out (by decide) with h | h
              · rw [h]; simp [Value.ownBlock]
              · exact fun h2 => h h2.symm))
          · exact HbS.out.grown hg3 (HbS.out.size) (fun j hj => (hO.out.lt j hj).1)
        go_wp2
        go_roundw
        case rel => exact ⟨k + 1, by omega, by go_num, hR⟩
        case measure => simp [intOf]; omega
    · obtain rfl : k = q := by omega
      have hfull : (vb m).take k = vb m := List.take_of_length_le (by rw [← dg_len, ← HQ.out]; omega)
      have hO2 := hO.out
      rw [hfull] at hO2
      have HO2 := Lib.hid hO2
      clear hO2 hfull
      go_wp2
      go_ret
      refine newO_of rfl HO2.out hbel.out (Nat.le_refl _) ?_
      intro x hx
      rcases List.mem_append.1 hx with h | h
      · exact hbyte.out x h
      · exact vb_byte m x h

theorem foldR_any (x : Int) (hx : -9223372036854775808 ≤ x ∧ x ≤ 9223372036854775807) (w : World) :
    Calls Tryz.prog 185 #[.int .i64 x] w fun e w' => e = .returned (.int .u64 (foldN x : Int)) ∧ w = w' := by
  by_cases h : 0 ≤ x
  · go_enter Tryz.func185, Tryz.ntmps185
    go_wp2
    go_ret
    exact ⟨ret_val (by unfold foldN; split <;> omega), rfl⟩
  · go_enter Tryz.func185, Tryz.ntmps185
    go_wp2
    go_ret
    exact ⟨ret_val (by unfold foldN; split <;> omega), rfl⟩
theorem strN_byte6 (s : ByteArray) : ∀ x ∈ strN s, x < 256 := by
  intro x hx
  obtain ⟨y, _, rfl⟩ := List.mem_map.1 hx
  exact y.toNat_lt
theorem wpList_append_strB {P : Program} (w : World) {ops : Array Oper} {rest : List Oper} {o : Oper} {a : Act} {Q : Exit → Act → World → Prop}
    (hw : Region.wanted o (yielded ops a.tmps) = true) (s x : Operand) (t t2 : TypeId) (hop : o.op = Op.call { callee := Callee.builtin Builtin.append, args := #[s, x], argTypes := #[t, t2] })
    (v u v' : Value) (w' : World) (hs : a.eval s = v) (hx : a.eval x = u) (hrun : (Builtin.append_ #[t, t2] o.type #[v, u]).run P w = .ok v' w')
    (hK : wpList P ops Q rest (a.put o.dst v') w') : wpList P ops Q (o :: rest) a w := by
  refine wpList_step fun K hK' => ?_
  rw [if_pos hw]
  have := hK' _ _ hK
  unfold Oper.wp execOp
  simp only [hop, resolve, invoke, builtin, Sem.run_bind, Sem.run_pure, Result.andThen_ok, List.map_toArray, List.map_cons, List.map_nil, hs, hx, hrun]
  exact this
theorem NewO.row {w : World} {l : List Nat} {e : Ending} {w' : World} (h : NewO w l e w') : ∃ a n cap, e = .returned (.slice a n cap) ∧ Row8 w' a n cap l ∧ n = l.length ∧ w'.ownsRow w.heap.size 5 1 (.slice a n cap) n (cells8 l) ∧ Below w.heap.size w w' := by
  obtain ⟨a, n, cap, rfl, ⟨h1, rfl, h3⟩, h4⟩ := h
  obtain ⟨ao, cap2, he, hr, _⟩ := Row8.of_owns h1 h3
  cases he
  exact ⟨_, _, _, rfl, hr, rfl, h1, h4⟩
theorem refPutSigned_any (ao : Option Addr) (n cap : Nat) (l : List Nat) (x : Int) (hx : -9223372036854775808 ≤ x ∧ x ≤ 9223372036854775807) (w : World) (hr : Row8 w ao n cap l) (hn : n ≤ 4294967296) :
    Calls Tryz.prog 57 #[.slice ao n cap, .int .i64 x] w (New8 w (l ++ vb (foldN x))) := by
  have HR := Lib.hid hr
  clear hr
  go_enter Tryz.func57, Tryz.ntmps57
  go_wp2_with fail
  refine (foldR_any x hx w).mono ?_
  rintro e w' ⟨rfl, rfl⟩
  go_wp2_with fail
  refine (refPut_any ao n cap l (foldN x) (fold_lt x hx) w HR.out hn).mono ?_
  rintro e w1 ⟨a, n1, c1, rfl, h1, h2, h3⟩
  have H1 := Lib.hid h1
  clear h1
  go_wp2
  go_ret
  exact ⟨a, n1, c1, rfl, H1.out, h2, h3⟩
set_option maxRecDepth 100000 in
set_option maxHeartbeats 2000000 in
theorem refPutText_any (ao : Option Addr) (n cap : Nat) (l : List Nat) (s : ByteArray) (w : World) (hr : Row8 w ao n cap l) (hn : n ≤ 4294967296) (hs : s.size ≤ 4294967296) :
    Calls Tryz.prog 58 #[.slice ao n cap, .string s] w (New8 w (l ++ vb s.size ++ strN s)) := by
  obtain ⟨i0, hi, hz0, hz1, hz2⟩ := info_parts Tryz.info8
  have HR := Lib.hid hr
  have hlen := Lib.hid hr.len
  have hbyte := Lib.hid hr.byte
  clear hr
  go_enter Tryz.func58, Tryz.ntmps58
  go_wp2_with fail
  refine (refPutO_any ao n cap l s.size (by omega) w HR.out hn).mono ?_
  rintro e w1 ⟨a, n1, c1, rfl, ⟨h1, hn1, h2⟩, hb1⟩
  have hl10 := vb_len64 (n := s.size) (by omega)
  have hnl : n1 ≤ 4294967306 := by rw [hn1, List.length_append, hlen.out]; omega
  obtain ⟨v', w2, hrun, hown2, hg2, _⟩ := Go.Lib.run_append_own_string (P := Tryz.prog) w1 w.heap.size 29 9 29 5 i0 Tryz.underlying29 Tryz.underlying9 hi hz0 hz1 hz2 (.slice a n1 c1) n1 (cells8 (l ++ vb s.size)) h1 s (by unfold maxLen; omega) (by omega) hb1.size
  have HRUN := Lib.hid hrun
  have hcells : cells8 (l ++ vb s.size) ++ Go.Lib.strCells s = cells8 (l ++ vb s.size ++ strN s) := by
    rw [← cells8_append (l ++ vb s.size) (strN s)]
    congr 1
    simp [Go.Lib.strCells, cells8, strN]
  rw [hcells] at hown2
  have hsl : (strN s).length = s.size := by unfold strN; rw [List.length_map, Array.length_toList]; rfl
  have hl2 : n1 + s.size = (l ++ vb s.size ++ strN s).length := by rw [hn1]; simp only [List.length_append, hsl]
  have hb2 : Below w.heap.size w w2 := hb1.grown hg2 hb1.size (fun k hk => (h1.lt k hk).1)
  obtain ⟨ao2, c2, rfl⟩ := own_slice3 hown2
  have hown3 := hown2
  rw [hl2] at hown3
  obtain ⟨a3, c3, he, hr3, ho3⟩ := Row8.of_owns hown3 (by
    intro x hx
    simp only [List.mem_append] at hx
    rcases hx with (h | h) | h
    · exact hbyte.out x h
    · exact vb_byte _ x h
    · exact strN_byte6 s x h)
  have he2 : ao2 = a3 ∧ c2 = c3 := by
    simp only [Value.slice.injEq] at he
    exact ⟨he.1, he.2.2⟩
  obtain ⟨rfl, rfl⟩ := he2
  rw [← hl2] at hr3
  have HR3 := Lib.hid hr3
  have HO3 := Lib.hid ho3
  have HB3 := Lib.hid hb2
  clear hrun hown2 hown3 he hr3 ho3 hg2 hcells hl2 hsl hb2 h1 h2 hb1 hn1 hnl hl10
  go_wp2_with (at_builtin; refine wpList_append_strB _ rfl _ _ _ _ rfl _ _ _ _ rfl rfl HRUN.out ?_)
  go_ret
  exact ⟨_, _, _, rfl, HR3.out, HO3.out, HB3.out⟩
end Go.Proofs.YtfdjeaieddcgdabGreatDoor
