/-
  WHAT IS PROVED: contracts of the reference's digits and Put.
-/
import Derived.Laws.AppendOwnNone
import Derived.Test.YtfdjeaieddcgdabGreatDoorQuiet
import Derived.Test.YtfdjeaieddcgdabGreatDoorRefPure
namespace Go.Proofs.YtfdjeaieddcgdabGreatDoor
open Go.RowKit

theorem Tryz.info64 : (Tryz.prog.info? 104).map (fun i => (i.zero, i.size, i.bytes)) = some (some (.int .u64 0), 1, 8) := by kernel_rfl

def cells64 (l : List Nat) : List Value := l.map fun x : Nat => Value.int .u64 (x : Int)
theorem cells64_length (l : List Nat) : (cells64 l).length = l.length := by simp [cells64]
theorem cells64_append (l m : List Nat) : cells64 l ++ cells64 m = cells64 (l ++ m) := by simp [cells64]
theorem cells64_one (l : List Nat) : ∀ u ∈ cells64 l, u.oneCell' = true := by
  intro u hu
  obtain ⟨_, _, rfl⟩ := List.mem_map.1 hu
  rfl
theorem cells64_get (l : List Nat) (i : Nat) (c : Nat) (h : l[i]? = some c) : (cells64 l)[i]? = some (.int .u64 (c : Int)) := by simp [cells64, h]
theorem cells64_set (l : List Nat) (i x : Nat) : (cells64 l).set i (.int .u64 (x : Int)) = cells64 (l.set i x) := by simp [cells64, List.map_set]

/-- what digits hands back -/
def NewD (w : World) (n : Nat) (e : Ending) (w' : World) : Prop :=
  ∃ g cap, e = .returned (.slice (some ⟨g, 0, none⟩) (dg n).length cap) ∧ w'.ownsRow w.heap.size 104 1 (.slice (some ⟨g, 0, none⟩) (dg n).length cap) (dg n).length (cells64 (dg n)) ∧ Below w.heap.size w w' ∧ (dg n).length ≤ cap ∧ cap ≤ 9223372036854775807

set_option maxRecDepth 100000 in
set_option maxHeartbeats 1000000 in
theorem dig_any (n : Nat) : ∀ (w : World), n < 18446744073709551616 → Calls Tryz.prog 184 #[.int .u64 (n : Int)] w (NewD w n) := by
  induction n using Nat.strongRecOn with
  | _ n ih =>
    intro w hn
    obtain ⟨i0, hi, hz0, hz1, hz2⟩ := info_parts Tryz.info64
    by_cases hlow : n < 128
    · clear ih
      go_enter Tryz.func184, Tryz.ntmps184
      go_wp2_with fail
      go_ret
      refine ⟨w.heap.size, 1, ?_, ?_, below_alloc _ _, ?_, by omega⟩
      · rw [dg_low hlow]; rfl
      · have := World.ownsRow_lit (base := w.heap.size) (e := 104) (size := 1) w #[.int .u64 (n : Int)] 1 (Nat.le_refl _) (by unfold maxLen; omega) rfl
        rw [dg_low hlow]
        exact this
      · rw [dg_low hlow]; simp
    · have hih := ih (n / 128) (by omega) (w.alloc (.cells #[.int .u64 ((n : Int) % 128)] 104)) (by omega)
      have hl10 : (dg (n / 128)).length ≤ 10 := by rw [dg_len]; exact vb_len64 (by omega)
      have hlp : 0 < (dg (n / 128)).length := by rw [dg_len]; exact vb_pos _
      have hown0 := World.ownsRow_lit (base := w.heap.size) (e := 104) (size := 1) w #[.int .u64 ((n : Int) % 128)] 1 (Nat.le_refl _) (by unfold maxLen; omega) rfl
      have HIH := Lib.hid hih
      clear ih hih
      go_enter Tryz.func184, Tryz.ntmps184
      go_wp2_with fail
      refine (HIH.out).mono ?_
      rintro e w1 ⟨g, cap, rfl, hown, hb, hc1, hc2⟩
      have hs := hb.size
      have ho1 := hown0.kept (grown_of_below hb) (.inr (by simp [Value.ownBlock]))
      obtain ⟨m, hm⟩ : ∃ m, m = (dg (n / 128)).length := ⟨_, rfl⟩
      rw [← hm] at hown hc1 hl10 hlp ⊢
      have HM := Lib.hid hm
      have HO := Lib.hid hown
      have HB := Lib.hid hb
      clear hm hown hb hown0
      go_wp2_with (at_builtin; refine wpList_append_own _ rfl (.tmp 9) (.tmp 12) 184 rfl w.heap.size 104 i0 (.int .u64 0) 1 8 Tryz.underlying184 hi hz0 hz1 hz2 rfl (by decide) _ _ _ rfl ho1 ⟨g, 0, none⟩ m cap (cells64 (dg (n / 128))) rfl ?c1 ?c2 (cells64_one _) ?c3 ?c4 ?c5 ?_)
      case c1 => have := HM.out; simp [cells64_length]; omega
      case c2 => exact HO.out.cells (g := g) rfl
      case c3 => unfold maxLen; omega
      case c4 => omega
      case c5 => simp at hs; omega
      intro v' w2 hown2 hg2 _
      obtain ⟨g2, cap2, rfl, hg, hcc1, hcc2⟩ := own_shape hown2 (by omega)
      go_wp2
      go_ret
      have hd := dg_more (n := n) (by omega)
      have hdl : (dg n).length = 1 + m := by rw [hd, List.length_cons, HM.out]; omega
      refine ⟨g2, cap2, by rw [hdl]; rfl, ?_, ?_, by rw [hdl]; exact hcc1, hcc2⟩
      · rw [hdl, hd]
        exact hown2
      · exact (below_step (Below.refl w.heap.size w) HB.out).grown hg2 (by simp at hs; omega) (fun k hk => by simp [Value.ownBlock] at hk; omega)

/-- what stands ahead of a round of the reference's Put -/
def RpRel (w : World) (l : List Nat) (n g m cap i : Nat) (v : Value) (wr : World) : Prop :=
  wr.ownsRow w.heap.size 5 1 v (l ++ (vb n).take i).length (cells8 (l ++ (vb n).take i)) ∧
  wr.ownsRow w.heap.size 104 1 (.slice (some ⟨g, 0, none⟩) m cap) m (cells64 ((vb n).take i ++ (dg n).drop i)) ∧ Below w.heap.size w wr

set_option maxRecDepth 100000 in
set_option maxHeartbeats 4000000 in
theorem refPut_any (ao : Option Addr) (n cap : Nat) (l : List Nat) (m : Nat) (hm : m < 18446744073709551616) (w : World) (hr : Row8 w ao n cap l) (hn : n ≤ 4294967296) :
    Calls Tryz.prog 56 #[.slice ao n cap, .int .u64 (m : Int)] w (New8 w (l ++ vb m)) := by
  obtain ⟨i0, hi, hz0, hz1, hz2⟩ := info_parts Tryz.info8
  have HR := Lib.hid hr
  have hlen := Lib.hid hr.len
  have hbyte := Lib.hid hr.byte
  have hnil : w.ownsRow w.heap.size 5 1 (.slice none 0 0) 0 (cells8 []) := World.ownsRow_nil w w.heap.size 5 1
  have hl10 : (dg m).length ≤ 10 := by rw [dg_len]; exact vb_len64 hm
  have hlp : 0 < (dg m).length := by rw [dg_len]; exact vb_pos m
  clear hr
  go_enter Tryz.func56, Tryz.ntmps56
  go_wp2_with (at_builtin; refine wpList_append_row rfl (.const (.slice none 0 0)) (.tmp 8) rfl w.heap.size _ 0 [] rfl hnil ao n cap l rfl HR.out (by omega) (Nat.le_refl _) ?_)
  intro v0 w0 hown0 hg0
  have hb0 : Below w.heap.size w w0 := (Below.refl w.heap.size w).grown hg0 (Nat.le_refl _) (fun k hk => by simp [Value.ownBlock] at hk)
  have HO := Lib.hid hown0
  have HB0 := Lib.hid hb0
  clear hown0 hb0 hnil hg0
  go_wp2_with fail
  refine (dig_any m w0 hm).mono ?_
  rintro e w1 ⟨g, cd, rfl, hd1, hb1, hc1, hc2⟩
  have HO1 := Lib.hid (HO.out.kept (grown_of_below hb1) (by cases v0.ownBlock <;> simp))
  have HB1 := Lib.hid (below_next HB0.out hb1)
  have HD1 := Lib.hid hd1
  obtain ⟨q, hq⟩ : ∃ q, q = (dg m).length := ⟨_, rfl⟩
  rw [← hq] at hl10 hlp hc1 HD1 ⊢
  have HQ := Lib.hid hq
  clear hd1 hb1 hq HO
  have hgw : w.heap.size ≤ g := (by have := (HD1.out.lt g rfl).1; have := HB0.out.size; omega)
  have HL0 : Hid (w1.ownsRow w.heap.size 104 1 (.slice (some ⟨g, 0, none⟩) q cd) q (cells64 (dg m))) := own_base HD1.out HB0.out.size
  go_wp2
  go_loopw [5, 7] (fun v i wr => ∃ k : Nat, k ≤ q ∧ i = .int .i64 k ∧ RpRel w l m g q cd k v wr) (fun _ i _ => q - (intOf i).toNat)
  case atStart => exact ⟨0, by omega, rfl, by simpa [hlen.out] using HO1.out, by simpa using HL0.out, HB1.out⟩
  case round =>
    obtain ⟨k, hk, rfl, hO', hL', hbel'⟩ := hrel
    have hO := Lib.hid hO'
    have hL := Lib.hid hL'
    have hbel := Lib.hid hbel'
    clear hO' hL' hbel'
    have hkl : ((vb m).take k).length ≤ 10 := by have := List.length_take_le k (vb m); omega
    have hlk : (l ++ (vb m).take k).length ≤ 4294967306 := by rw [List.length_append, hlen.out]; omega
    by_cases hlt : k < q
    · obtain ⟨d, hd⟩ : ∃ d, (dg m)[k]? = some d := ⟨(dg m)[k]'(by rw [← HQ.out]; exact hlt), by rw [List.getElem?_eq_getElem]⟩
      have hd2 := dg_get m k d hd
      have hd128 := hd2.1
      have hLk : ((vb m).take k ++ (dg m).drop k)[k]? = some d := by
        have e : ((vb m).take k).length = k := by rw [List.length_take, ← dg_len, ← HQ.out]; omega
        rw [List.getElem?_append_right (by omega), e, Nat.sub_self, List.getElem?_drop]; exact hd
      have hc : wr.cell? ⟨g, k, none⟩ = some (.int .u64 (d : Int)) := (hL.out.cellAt k (by omega)).trans (cells64_get _ _ _ hLk)
      have hf := hL.out.frozenAt k
      have HD := Lib.hid hd
      clear hLk hd
      by_cases hlast : k + 1 < q
      · have hvx := hd2.2.1 (by rw [← HQ.out]; exact hlast)
        have hc2 := World.cell?_setCell_same wr ⟨g, k, none⟩ (.int .u64 ((d : Int) + 128)) hc
        have hst := hL.out.stored k (.int .u64 ((d : Int) + 128))
        have hoS := Lib.hid (hO.out.kept hst.2 (own_ne_own hO.out hL.out (by decide)))
        have hLS := Lib.hid hst.1
        have hbS : Below w.heap.size w (wr.setCell ⟨g, k, none⟩ (.int .u64 ((d : Int) + 128))) := hbel.out.setCell hgw _
        have hsz : (wr.setCell ⟨g, k, none⟩ (.int .u64 ((d : Int) + 128))).heap.size = wr.heap.size := by simp
        have hrow : Row8 ((wr.setCell ⟨g, k, none⟩ (.int .u64 ((d : Int) + 128))).alloc (.cells #[.int .u8 ((d : Int) + 128)] 5)) (some ⟨wr.heap.size, 0, none⟩) 1 1 [d + 128] := row_new (wr.setCell ⟨g, k, none⟩ (.int .u64 ((d : Int) + 128))) [d + 128] 1 wr.heap.size (0, 0) hsz rfl (by intro x hx; simp at hx; omega) (by omega)
        have HRow := Lib.hid hrow
        have HX := Lib.hid hvx
        have HbS := Lib.hid hbS
        clear hrow hvx hsz hbS hd2 hst
        go_wp2_with (at_builtin; refine wpList_append_row rfl (.tmp 31) (.tmp 37) rfl w.heap.size _ _ _ rfl (hoS.out.alloc _) (some ⟨wr.heap.size, 0, none⟩) 1 1 [d + 128] rfl HRow.out (by omega) (by have := hbel.out.size; simp; omega) ?_)
        intro v' w2 hown2 hg2
        have hg3 : (wr.setCell ⟨g, k, none⟩ (.int .u64 ((d : Int) + 128))).grownBy w2 u5.ownBlock := grown_trans (World.grownBy_alloc _ _ _) hg2
        have hR : RpRel w l m g q cd (k + 1) v' w2 := by
          refine ⟨?_, ?_, ?_⟩
          · have e : l ++ (vb m).take (k + 1) = l ++ (vb m).take k ++ [d + 128] := by rw [List.take_add_one, HX.out]; simp
            have e2 : (l ++ (vb m).take (k + 1)).length = l.length + min k (vb m).length + 1 := by rw [e, List.length_append, List.length_append, List.length_take]; rfl
            rw [e2, e, List.append_assoc]
            exact hown2
          · rw [← set_step (vb m) (dg m) k (d + 128) (by rw [← HQ.out]; exact hlt) (dg_len m).symm HX.out, ← cells64_set]
            exact hLS.out.kept hg3 (.inr (by
              rcases own_ne_own hO.out hL.out (by decide) with h | h
              · rw [h]; simp [Value.ownBlock]
              · exact fun h2 => h h2.symm))
          · exact HbS.out.grown hg3 (HbS.out.size) (fun j hj => (hO.out.lt j hj).1)
        go_wp2
        go_roundw
        case rel => exact ⟨k + 1, by omega, by go_num, hR⟩
        case measure => simp [intOf]; omega
      · have hvx := hd2.2.2 (by rw [← HQ.out]; exact hlast)
        have hoS := hO
        have hLS := hL
        have hbS := hbel.out
        have hsz : wr.heap.size = wr.heap.size := by simp
        have hrow : Row8 (wr.alloc (.cells #[.int .u8 ((d : Int))] 5)) (some ⟨wr.heap.size, 0, none⟩) 1 1 [d] := row_new wr [d] 1 wr.heap.size (0, 0) hsz rfl (by intro x hx; simp at hx; omega) (by omega)
        have HRow := Lib.hid hrow
        have HX := Lib.hid hvx
        have HbS := Lib.hid hbS
        clear hrow hvx hsz hbS hd2 
        go_wp2_with (at_builtin; refine wpList_append_row rfl (.tmp 31) (.tmp 37) rfl w.heap.size _ _ _ rfl (hoS.out.alloc _) (some ⟨wr.heap.size, 0, none⟩) 1 1 [d] rfl HRow.out (by omega) (by have := hbel.out.size; simp; omega) ?_)
        intro v' w2 hown2 hg2
        have hg3 : wr.grownBy w2 u5.ownBlock := grown_trans (World.grownBy_alloc _ _ _) hg2
        have hR : RpRel w l m g q cd (k + 1) v' w2 := by
          refine ⟨?_, ?_, ?_⟩
          · have e : l ++ (vb m).take (k + 1) = l ++ (vb m).take k ++ [d] := by rw [List.take_add_one, HX.out]; simp
            have e2 : (l ++ (vb m).take (k + 1)).length = l.length + min k (vb m).length + 1 := by rw [e, List.length_append, List.length_append, List.length_take]; rfl
            rw [e2, e, List.append_assoc]
            exact hown2
          · have e : (vb m).take (k + 1) ++ (dg m).drop (k + 1) = (vb m).take k ++ (dg m).drop k := by
              rw [List.take_add_one, HX.out, List.drop_eq_getElem_cons (show k < (dg m).length by rw [← HQ.out]; exact hlt)]
              have := (List.getElem?_eq_some_iff.1 HD.out).2
              rw [this]; simp
            rw [e]
            exact hLS.out.kept hg3 (.inr (by
              rcases own_ne_own hO.out hL.out (by decide) with h | h
              · rw [h]; simp [Value.ownBlock]
              · exact fun h2 => h h2.symm))
          · exact HbS.out.grown hg3 (HbS.out.size) (fun j hj => (hO.out.lt j hj).1)
        go_wp2
        go_roundw
        case rel => exact ⟨k + 1, by omega, by go_num, hR⟩
        case measure => simp [intOf]; omega
    · obtain rfl : k = q := by omega
      have hfull : (vb m).take k = vb m := List.take_of_length_le (by rw [← dg_len, ← HQ.out]; omega)
      have hO2 := hO.out
      rw [hfull] at hO2
      have HO2 := Lib.hid hO2
      clear hO2 hfull
      go_wp2
      go_ret
      refine new8_of rfl HO2.out hbel.out (Nat.le_refl _) ?_
      intro x hx
      rcases List.mem_append.1 hx with h | h
      · exact hbyte.out x h
      · exact vb_byte m x h
end Go.Proofs.YtfdjeaieddcgdabGreatDoor
