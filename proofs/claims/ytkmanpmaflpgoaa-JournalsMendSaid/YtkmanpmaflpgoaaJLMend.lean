/-
  WHAT IS PROVED: the walk of JournalsMend.
-/
import Derived.Test.YtkmanpmaflpgoaaJFiles
namespace Go.Proofs.Ytkmanpmaflpgoaa
open Go.RowKit Go.Lib

/-- the name of the file that is laid anew -/
def nK : ByteArray := ⟨#[106, 46, 110, 101, 119]⟩
theorem jN_fail (n : Nat) (b : List Nat) (s keep : Nat) : (jN n b s [(nJ, 0)]).failM keep false = jN n (b.take (s + keep)) (min b.length (s + keep)) [(nJ, 0)] := by kernel_rfl
/-- two files, one of them anew -/
def jT (n : Nat) (f : FileM) (b : List Nat) (s : Nat) (q : Dir) : DiskM := ⟨n, [(nJ, 0), (nK, 1)], q, [f, ⟨b, s⟩]⟩
theorem jT_open (n : Nat) (b : List Nat) (s : Nat) (q : Dir) : (jN n b s q).miss nK = 7 ∧ (jN n b s q).createE nK = 0 ∧ (jN n b s q).createM nK = jT n ⟨b, s⟩ [] 0 q := ⟨by kernel_rfl, by kernel_rfl, by kernel_rfl⟩
theorem jT_miss (n : Nat) (f : FileM) (b : List Nat) (s : Nat) (q : Dir) : (jT n f b s q).miss nK = 0 := by kernel_rfl
theorem jT_left (n : Nat) (f : FileM) (b : List Nat) (s : Nat) (q : Dir) : (jT n f b s q).left = n - (f.bytes.length + b.length) := by
  show n - (f.bytes.length + (b.length + 0)) = _
  rfl
theorem jT_add (n : Nat) (f : FileM) (l : List (List Nat)) (s : Nat) (q : Dir) (r : List Nat) (hr : r.length ≤ 65536) (h : f.bytes.length + (allB 0 (l ++ [r])).length ≤ n) (h2 : (allB 0 (l ++ [r])).length ≤ 1048576) :
    (jT n f (allB 0 l) s q).addE nK (allB 0 l).length r = 0 ∧ (jT n f (allB 0 l) s q).addM nK (allB 0 l).length r = jT n f (allB 0 (l ++ [r])) s q ∧ (jT n f (allB 0 l) s q).addS nK (allB 0 l).length r = (allB 0 (l ++ [r])).length := by
  rw [allB_snoc, Nat.zero_add, List.length_append] at h h2
  obtain ⟨h3, h4, h5⟩ := add_eq (jT n f (allB 0 l) s q) nK r 1 ⟨allB 0 l, s⟩ (jT_miss n f (allB 0 l) s q) (by kernel_rfl) rfl hr (by rw [jT_left]; simp only; omega) h2
  refine ⟨h3, ?_, ?_⟩
  · rw [allB_snoc, Nat.zero_add]; exact h4
  · rw [allB_snoc, Nat.zero_add, List.length_append]; exact h5
theorem jT_sync (n : Nat) (f : FileM) (b : List Nat) (s : Nat) (q : Dir) : (jT n f b s q).syncM nK = jT n f b b.length q := by kernel_rfl
theorem jT_rename (n : Nat) (f : FileM) (b : List Nat) (s : Nat) (q : Dir) : (jT n f b s q).renameE nK nJ = 0 ∧ (jT n f b s q).renameM nK nJ = ⟨n, [(nJ, 1)], q, [f, ⟨b, s⟩]⟩ := ⟨by kernel_rfl, by kernel_rfl⟩
theorem jR_fail (n : Nat) (f : FileM) (b : List Nat) (q : Dir) : (DiskM.namesM ⟨n, [(nJ, 1)], q, [f, ⟨b, b.length⟩]⟩).failM 0 false = jN n b b.length [(nJ, 0)] := by
  have h : (DiskM.namesM ⟨n, [(nJ, 1)], q, [f, ⟨b, b.length⟩]⟩).failM 0 false = jN n (b.take (b.length + 0)) (min b.length (b.length + 0)) [(nJ, 0)] := by kernel_rfl
  rw [h, List.take_of_length_le (by omega), Nat.min_eq_left (by omega)]

/-- how long the file is with so many records -/
def lenAt (rs : List (List Nat)) (i : Nat) : Nat := (allB 0 (rs.take i)).length
/-- which records will be there -/
structure Mend (rs : List (List Nat)) (k keep i t fr : Nat) : Prop where
  ahead : i ≤ k → t = k ∧ fr = lenAt rs i
  behind : k ≤ i → fr = lenAt rs k ∧ k ≤ t ∧ t ≤ i ∧ (k < t → lenAt rs t ≤ fr + keep) ∧ (t < i → fr + keep < lenAt rs (t + 1))
theorem Mend.start (rs : List (List Nat)) (k keep : Nat) : Mend rs k keep 0 k 0 :=
  ⟨fun _ => ⟨rfl, rfl⟩, fun h => by
    obtain rfl : k = 0 := by omega
    exact ⟨rfl, by omega, by omega, fun h => by omega, fun h => by omega⟩⟩
theorem Mend.sure {rs : List (List Nat)} {k keep i t fr : Nat} (h : Mend rs k keep i t fr) (hi : i < k) : Mend rs k keep (i + 1) t (lenAt rs (i + 1)) := by
  obtain ⟨rfl, _⟩ := h.ahead (by omega)
  refine ⟨fun _ => ⟨rfl, rfl⟩, fun h => ?_⟩
  obtain rfl : t = i + 1 := by omega
  exact ⟨rfl, by omega, by omega, fun h => by omega, fun h => by omega⟩
theorem Mend.yes {rs : List (List Nat)} {k keep i t fr : Nat} (h : Mend rs k keep i t fr) (hi : k ≤ i) (hk : lenAt rs (i + 1) ≤ fr + keep) : Mend rs k keep (i + 1) (i + 1) fr := by
  obtain ⟨h1, h2, h3, h4, h5⟩ := h.behind hi
  exact ⟨fun h => by omega, fun _ => ⟨h1, by omega, by omega, fun _ => hk, fun h => by omega⟩⟩
theorem Mend.no {rs : List (List Nat)} {k keep i t fr : Nat} (h : Mend rs k keep i t fr) (hi : k ≤ i) (hk : fr + keep < lenAt rs (i + 1)) : Mend rs k keep (i + 1) t fr := by
  obtain ⟨h1, h2, h3, h4, h5⟩ := h.behind hi
  refine ⟨fun h => by omega, fun _ => ⟨h1, by omega, by omega, h4, fun h => ?_⟩⟩
  rcases Nat.lt_or_ge t i with h6 | h6
  · exact h5 h6
  · obtain rfl : t = i := by omega
    exact hk
theorem Mend.stop {rs : List (List Nat)} {k keep t fr : Nat} (h : Mend rs k keep rs.length t fr) (hk : k ≤ rs.length) : t ≤ rs.length ∧ (readM ((allB 0 rs).take (fr + keep))).recs = rs.take t := by
  obtain ⟨h1, h2, h3, h4, h5⟩ := h.behind hk
  refine ⟨h3, read_take rs (fr + keep) t h3 ?_ h5⟩
  rcases Nat.lt_or_ge k t with h6 | h6
  · exact h4 h6
  · obtain rfl : t = k := by omega
    show lenAt rs t ≤ _
    omega
theorem Mend.bound {rs : List (List Nat)} {k keep i t fr : Nat} (h : Mend rs k keep i t fr) (hk : k ≤ rs.length) (hi : i ≤ rs.length) (hb : ∀ j, lenAt rs j ≤ 50000) : fr ≤ 50000 ∧ t ≤ rs.length := by
  rcases Nat.lt_or_ge i k with h6 | h6
  · obtain ⟨rfl, rfl⟩ := h.ahead (by omega); exact ⟨hb _, hk⟩
  · obtain ⟨rfl, h2, h3, _⟩ := h.behind h6; exact ⟨hb _, by omega⟩

set_option maxRecDepth 100000 in
set_option maxHeartbeats 8000000 in
theorem walk_JournalsMend (ao : Option Addr) (n cap : Nat) (rs : List (List Nat)) {w : World} (hr : RowB w ao n cap rs) (c1 : Int) (h1 : (Lit.int .u8 c1).wf = true) (c2 : Int) (h2 : (Lit.int .u16 c2).wf = true) :
    Calls Try.prog 8 #[.slice ao n cap, .int .u8 c1, .int .u16 c2] w fun e w' => e = .returned (.bool true) ∧ Below w.heap.size w w' := by
  have k1 := wf_u8 h1
  have k2 := wf_u16 h2
  have HRB := Lib.hid hr
  obtain rfl := hr.row.len
  by_cases hbig : bigR rs
  · have HBIG := Lib.hid hbig
    clear hr hbig h1 h2
    go_enter Try.func8, Try.ntmps8
    go_wp2_with fail
    refine (many_yes1 _ ao rs.length cap rs _ (by exact cell_one_new _ _ _ 0 _ rfl) (HRB.out.kept (below_alloc _ _)) HBIG.out).mono ?_
    rintro e w1 ⟨rfl, b1⟩
    have B1 := Lib.hid (below_next (below_alloc _ _) b1)
    clear b1
    go_wp2_with fail
    refine (alive_yes w1).mono ?_
    rintro e w2 ⟨rfl, b2⟩
    have B2 := Lib.hid (below_next B1.out b2)
    clear b2
    go_wp2
    go_ret
    exact ⟨rfl, B2.out⟩
  · obtain ⟨h40, hea⟩ := few_each hbig
    have HEA := Lib.hid hea
    have HBIG := Lib.hid hbig
    obtain ⟨keep, rfl, hkeep⟩ : ∃ p : Nat, c2 = (p : Int) ∧ p ≤ 65535 := ⟨c2.toNat, by omega, by omega⟩
    obtain ⟨k, hk, hkl⟩ : ∃ p : Nat, c1 % ((rs.length : Int) + 1) = (p : Int) ∧ p ≤ rs.length := ⟨(c1 % ((rs.length : Int) + 1)).toNat, by have := Int.emod_nonneg c1 (show (rs.length : Int) + 1 ≠ 0 by omega); omega, by have := Int.emod_lt_of_pos c1 (show (0 : Int) < (rs.length : Int) + 1 by omega); omega⟩
    have HLEN : Hid (∀ j, lenAt rs j ≤ 50000) := Lib.hid fun j => few_room HBIG.out j
    clear hr hbig hea h1 h2
    go_enter Try.func8, Try.ntmps8
    go_wp2_with fail
    refine (many_no1 _ ao rs.length cap rs _ (by exact cell_one_new _ _ _ 0 _ rfl) (HRB.out.kept (below_alloc _ _)) HBIG.out).mono ?_
    rintro e w1 ⟨rfl, b1⟩
    have B1 := Lib.hid (below_next (below_alloc _ _) b1)
    clear b1
    go_wp2_with fail
    refine (opened_x w w1 B1.out 1000000 (by omega) (by omega)).mono ?_
    rintro e w2 ⟨d, j, rfl, h2⟩
    have H2 := Lib.hid h2
    clear h2
    go_wp2_with fail
    refine (names_x H2.out (jN_names 1000000 [] 0 [])).mono ?_
    rintro e w3 ⟨rfl, h3⟩
    have H3 := Lib.hid h3
    clear h3 H2
    go_wp2_with fail
    simp only [hk]
    go_loopw [10, 11, 12] (fun tv fv iv wr => ∃ (i t fr : Nat), i ≤ rs.length ∧ iv = .int .i64 i ∧ tv = .int .i64 t ∧ fv = .int .i64 fr ∧ Hid (Mend rs k keep i t fr) ∧ Hid (HasX w wr d (jN 1000000 (allB 0 (rs.take i)) fr [(nJ, 0)]) [(j, jObj d nJ (allB 0 (rs.take i)).length)])) (fun _ _ iv _ => rs.length - (RowKit.intOf iv).toNat)
    case atStart => exact ⟨0, k, 0, by omega, rfl, rfl, rfl, Lib.hid (Mend.start rs k keep), H3⟩
    case round =>
      obtain ⟨i, t, fr, hi, rfl, rfl, rfl, HM, HX⟩ := hrel
      clear H3 B1
      have hbd := HM.out.bound hkl hi HLEN.out
      by_cases hlt : i < rs.length
      · obtain ⟨b, off, x, aj, cj, rfl, hx, hcell, hxr⟩ := HRB.out.row.one i hlt
        have hx4 := HEA.out x (List.mem_of_getElem? hx)
        have HC := Lib.hid hcell
        have HXR := Lib.hid hxr
        have HNX := Lib.hid (take_next hx)
        have hfit : (allB 0 (rs.take (i + 1))).length ≤ 50000 := HLEN.out (i + 1)
        have hnext : lenAt rs (i + 1) = (allB 0 (rs.take (i + 1))).length := rfl
        rw [HNX.out] at hfit hnext
        clear hcell hxr hx
        generalize hdone : rs.take i = done at *
        have y1 := HC.out wr HX.out.below
        have hadd := Lib.hid (jN_add 1000000 done fr [(nJ, 0)] x (by omega) (by omega) (by omega))
        go_wp2_with fail
        refine (add_x HX.out (by decide) aj x.length cj x (HXR.out.kept HX.out.below) (k := 0) (by rw [hadd.out.1]; rfl) hadd.out.2.1 hadd.out.2.2).mono ?_
        rintro e wa ⟨rfl, hxa⟩
        have HA := Lib.hid hxa
        clear hxa HX hadd y1
        go_wp2_with fail
        refine (bytes_x HA.out nJ (by decide) (jN_all _ _ _ _)).mono ?_
        rintro e wb ⟨a3, q3, rfl, _, b3, _⟩
        have HB := Lib.hid (HA.out.kept b3)
        clear b3 HA
        generalize hL : (allB 0 (done ++ [x])).length = L at *
        by_cases hik : i < k
        · go_wp2_with fail
          refine (jsync_x HB.out (by decide) (k := 0) (by rw [jN_miss]; rfl) (jN_sync _ _ _ _)).mono ?_
          rintro e wc ⟨rfl, hxc⟩
          have HD := Lib.hid hxc
          clear hxc HB
          go_wp2
          go_roundw
          case rel => exact ⟨i + 1, t, L, by omega, by go_num, rfl, rfl, Lib.hid (by rw [← hnext]; exact HM.out.sure hik), Lib.hid (by rw [HNX.out, hL]; have h := HD.out; rw [hL] at h; exact h)⟩
          case measure => simp [RowKit.intOf]; omega
        · by_cases hkp : L ≤ fr + keep
          · have hkp' : (L : Int) - (fr : Int) ≤ (keep : Int) := by omega
            go_wp2
            go_roundw
            case rel => exact ⟨i + 1, i + 1, fr, by omega, by go_num, by go_num, rfl, Lib.hid (HM.out.yes (by omega) (by omega)), Lib.hid (by rw [HNX.out, hL]; exact HB.out)⟩
            case measure => simp [RowKit.intOf]; omega
          · have hkp' : ¬ (L : Int) - (fr : Int) ≤ (keep : Int) := by omega
            go_wp2
            go_roundw
            case rel => exact ⟨i + 1, t, fr, by omega, by go_num, rfl, rfl, Lib.hid (HM.out.no (by omega) (by omega)), Lib.hid (by rw [HNX.out, hL]; exact HB.out)⟩
            case measure => simp [RowKit.intOf]; omega
      · obtain rfl : i = rs.length := by omega
        have hstop := HM.out.stop hkl
        have ht := hstop.1
        have HST := Lib.hid hstop.2
        have hcr := HRB.out.row.room
        have hcm := HRB.out.row.most
        have hfl : (allB 0 (rs.take rs.length)).length ≤ 50000 := HLEN.out rs.length
        rw [List.take_length] at HX hfl
        have hcut : ((allB 0 rs).take (fr + keep)).length ≤ 50000 := by rw [List.length_take]; omega
        have kc := fun (w : World) (C : Array Value) (n c : Nat) => Lib.run_convert_bytes_const (P := Try.prog) w 22 5 C n c Try.underlying22 Try.underlying5
        have KC := Lib.hid kc
        have HNF := Lib.hid (jN_fail 1000000 (allB 0 rs) fr keep)
        clear hstop kc
        go_wp2_with fail
        refine (fail_h HX.out.has keep false (by omega) HNF.out).mono ?_
        rintro e w4 ⟨c, rfl, h4, _⟩
        have H4 := Lib.hid h4.x
        clear h4 HX
        go_wp2_with fail
        refine (tells_x H4.out nJ (by decide) (jN_miss _ _ _ _) (rs := rs.take t) (by rw [jN_all]; exact HST.out) ao t cap ((HRB.out.row.upto t ht).kept H4.out.below)).mono ?_
        rintro e w5 ⟨rfl, b5⟩
        have H5 := Lib.hid (H4.out.kept b5)
        clear b5 H4
        have HJT := Lib.hid (jT_open 1000000 ((allB 0 rs).take (fr + keep)) (min (allB 0 rs).length (fr + keep)) [(nJ, 0)])
        generalize (allB 0 rs).take (fr + keep) = old at *
        generalize min (allB 0 rs).length (fr + keep) = os at *
        go_wp2_with fail
        refine (open_new_x H5.out nK (by decide) HJT.out.1 HJT.out.2.1 HJT.out.2.2).mono ?_
        rintro e w6 ⟨m, a6, q6, rfl, h6, _, _⟩
        have H6 := Lib.hid h6
        clear h6 H5 HJT
        go_wp2_with fail
        go_loopw [18] (fun iv wr => ∃ (i : Nat), i ≤ t ∧ iv = .int .i64 i ∧ Hid (HasX w wr c (jT 1000000 ⟨old, os⟩ (allB 0 (rs.take i)) 0 [(nJ, 0)]) [(m, jObj c nK (allB 0 (rs.take i)).length)])) (fun iv _ => t - (RowKit.intOf iv).toNat)
        case atStart => exact ⟨0, by omega, rfl, H6⟩
        case round =>
          clear H6
          obtain ⟨i, hit, rfl, HX⟩ := hrel
          by_cases hlt2 : i < t
          · obtain ⟨b, off, x, aj, cj, rfl, hx, hcell, hxr⟩ := HRB.out.row.one i (by omega)
            have hx4 := HEA.out x (List.mem_of_getElem? hx)
            have HXR := Lib.hid hxr
            have HNX := Lib.hid (take_next hx)
            have hfit : (allB 0 (rs.take (i + 1))).length ≤ 50000 := HLEN.out (i + 1)
            rw [HNX.out] at hfit
            have y1 := hcell wr HX.out.below
            clear hcell hxr hx
            generalize rs.take i = done at *
            have hadd := Lib.hid (jT_add 1000000 ⟨old, os⟩ done 0 [(nJ, 0)] x (by omega) (by simp only; omega) (by omega))
            go_wp2_with fail
            refine (add_x HX.out (by decide) aj x.length cj x (HXR.out.kept HX.out.below) (k := 0) (by rw [hadd.out.1]; rfl) hadd.out.2.1 hadd.out.2.2).mono ?_
            rintro e wa ⟨rfl, hxa⟩
            have HA := Lib.hid hxa
            clear hxa HX hadd y1
            go_wp2
            go_roundw
            case rel => exact ⟨i + 1, by omega, by go_num, Lib.hid (by rw [HNX.out]; exact HA.out)⟩
            case measure => simp [RowKit.intOf]; omega
          · obtain rfl : i = t := by omega
            have hft : (allB 0 (rs.take i)).length ≤ 50000 := HLEN.out i
            generalize hall : rs.take i = mine at *
            have hml : mine.length = i := by rw [← hall, List.length_take]; omega
            have HRT := Lib.hid ((HRB.out.row.upto i ht))
            rw [hall] at HRT
            go_wp2_with fail
            refine (jsync_x HX.out (by decide) (k := 0) (by rw [jT_miss]; rfl) (jT_sync _ _ _ _ _)).mono ?_
            rintro e w7 ⟨rfl, h7⟩
            have H7 := Lib.hid h7
            clear h7 HX
            go_wp2_with fail
            have hrn := jT_rename 1000000 ⟨old, os⟩ (allB 0 mine) (allB 0 mine).length [(nJ, 0)]
            refine (rename_x H7.out nK nJ (by decide) (by decide) (k := 0) (by rw [hrn.1]; rfl) hrn.2).mono ?_
            clear hrn
            rintro e w8 ⟨rfl, h8⟩
            have H8 := Lib.hid h8
            clear h8 H7
            go_wp2_with fail
            refine (names_x H8.out rfl).mono ?_
            rintro e w9 ⟨rfl, h9⟩
            have H9 := Lib.hid h9
            clear h9 H8
            go_wp2_with fail
            refine (fail_h H9.out.has 0 false (by omega) (jR_fail 1000000 ⟨old, os⟩ (allB 0 mine) [(nJ, 0)])).mono ?_
            rintro e w10 ⟨o, rfl, h10, _⟩
            have H10 := Lib.hid h10.x
            clear h10 H9
            go_wp2_with fail
            refine (open_x H10.out nJ (by decide) (jN_miss _ _ _ _) (rs := mine) (stop := (allB 0 mine).length) (by rw [jN_all]; exact (read_all mine).1) (by rw [jN_all]; exact (read_all mine).2)).mono ?_
            rintro e w11 ⟨⟨z, a11, q11, he, h11, r11, _⟩, _⟩
            rw [hml] at he r11
            subst he
            have H11 := Lib.hid h11
            have R11 := Lib.hid r11
            clear h11 r11 H10
            go_wp2_with fail
            refine (sameRecords_same a11 ao i q11 cap mine w11 R11.out (HRT.out.kept H11.out.below)).mono ?_
            rintro e w12 ⟨rfl, b12⟩
            have H12 := Lib.hid (H11.out.kept b12)
            have kc := KC.out
            have hml4 : (allB 0 (mine ++ [[109, 111, 114, 101]])).length ≤ 100000 := by rw [allB_snoc, Nat.zero_add, List.length_append]; have h := (writtenB_len [109, 111, 114, 101] (allB 0 mine).length).1; simp only [List.length_cons, List.length_nil] at h; omega
            have hmore := Lib.hid (jN_add 1000000 mine (allB 0 mine).length [(nJ, 0)] [109, 111, 114, 101] (by decide) (by omega) (by omega))
            clear b12 H11 R11
            go_wp2_with fail
            refine (add_x (H12.out.alloc _) (by decide) _ 4 4 [109, 111, 114, 101] (row_new _ [109, 111, 114, 101] 4 _ _ rfl rfl (by decide) (by omega)) (k := 0) (by rw [hmore.out.1]; rfl) hmore.out.2.1 hmore.out.2.2).mono ?_
            rintro e w13 ⟨rfl, h13⟩
            have H13 := Lib.hid h13
            clear h13
            go_wp2
            go_ret
            exact ⟨rfl, H13.out.below⟩
end Go.Proofs.Ytkmanpmaflpgoaa
