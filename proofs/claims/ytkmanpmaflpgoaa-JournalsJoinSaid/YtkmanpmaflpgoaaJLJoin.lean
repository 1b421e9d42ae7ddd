/-
  WHAT IS PROVED: the walk of JournalsJoin.
-/
import Derived.Test.YtkmanpmaflpgoaaJPut
namespace Go.Proofs.Ytkmanpmaflpgoaa
open Go.RowKit Go.Lib

def nQ : ByteArray := ⟨#[107]⟩
def nB : ByteArray := ⟨#[98, 111, 116, 104]⟩
def nC : ByteArray := ⟨#[99, 117, 116]⟩
/-- two journals' files -/
def jA (n : Nat) (a b : List Nat) : DiskM := ⟨n, [(nJ, 0), (nQ, 1)], [], [⟨a, 0⟩, ⟨b, 0⟩]⟩
/-- both behind one another, too -/
def jB (n : Nat) (a b c : List Nat) : DiskM := ⟨n, [(nB, 2), (nJ, 0), (nQ, 1)], [], [⟨a, 0⟩, ⟨b, 0⟩, ⟨c, 0⟩]⟩
/-- and one with the first block missing -/
def jC (n : Nat) (a b c e : List Nat) : DiskM := ⟨n, [(nB, 2), (nC, 3), (nJ, 0), (nQ, 1)], [], [⟨a, 0⟩, ⟨b, 0⟩, ⟨c, 0⟩, ⟨e, 0⟩]⟩
theorem jA_open (n : Nat) : (jM n [] 0).miss nQ = 7 ∧ (jM n [] 0).createE nQ = 0 ∧ (jM n [] 0).createM nQ = jA n [] [] := ⟨by kernel_rfl, by kernel_rfl, by kernel_rfl⟩
theorem jA_all (n : Nat) (a b : List Nat) : (jA n a b).all nJ = a ∧ (jA n a b).all nQ = b := ⟨by kernel_rfl, by kernel_rfl⟩
theorem jA_miss (n : Nat) (a b : List Nat) : (jA n a b).miss nJ = 0 ∧ (jA n a b).miss nQ = 0 := ⟨by kernel_rfl, by kernel_rfl⟩
theorem jA_left (n : Nat) (a b : List Nat) : (jA n a b).left = n - (a.length + b.length) := by
  show n - (a.length + (b.length + 0)) = _
  rfl
theorem jA_addJ (n : Nat) (l : List (List Nat)) (b : List Nat) (r : List Nat) (hr : r.length ≤ 65536) (h : (allB 0 (l ++ [r])).length + b.length ≤ n) (h2 : (allB 0 (l ++ [r])).length ≤ 1048576) :
    (jA n (allB 0 l) b).addE nJ (allB 0 l).length r = 0 ∧ (jA n (allB 0 l) b).addM nJ (allB 0 l).length r = jA n (allB 0 (l ++ [r])) b ∧ (jA n (allB 0 l) b).addS nJ (allB 0 l).length r = (allB 0 (l ++ [r])).length := by
  rw [allB_snoc, Nat.zero_add, List.length_append] at h h2
  obtain ⟨h3, h4, h5⟩ := add_eq (jA n (allB 0 l) b) nJ r 0 ⟨allB 0 l, 0⟩ (jA_miss n (allB 0 l) b).1 (by kernel_rfl) rfl hr (by rw [jA_left]; simp only; omega) h2
  refine ⟨h3, ?_, ?_⟩
  · rw [allB_snoc, Nat.zero_add]; exact h4
  · rw [allB_snoc, Nat.zero_add, List.length_append]; exact h5
theorem jA_addQ (n : Nat) (a : List Nat) (l : List (List Nat)) (r : List Nat) (hr : r.length ≤ 65536) (h : a.length + (allB 0 (l ++ [r])).length ≤ n) (h2 : (allB 0 (l ++ [r])).length ≤ 1048576) :
    (jA n a (allB 0 l)).addE nQ (allB 0 l).length r = 0 ∧ (jA n a (allB 0 l)).addM nQ (allB 0 l).length r = jA n a (allB 0 (l ++ [r])) ∧ (jA n a (allB 0 l)).addS nQ (allB 0 l).length r = (allB 0 (l ++ [r])).length := by
  rw [allB_snoc, Nat.zero_add, List.length_append] at h h2
  obtain ⟨h3, h4, h5⟩ := add_eq (jA n a (allB 0 l)) nQ r 1 ⟨allB 0 l, 0⟩ (jA_miss n a (allB 0 l)).2 (by kernel_rfl) rfl hr (by rw [jA_left]; simp only; omega) h2
  refine ⟨h3, ?_, ?_⟩
  · rw [allB_snoc, Nat.zero_add]; exact h4
  · rw [allB_snoc, Nat.zero_add, List.length_append]; exact h5
theorem jB_make (n : Nat) (a b : List Nat) : (jA n a b).createE nB = 0 ∧ (jA n a b).createM nB = jB n a b [] := ⟨by kernel_rfl, by kernel_rfl⟩
theorem jB_append (n : Nat) (a b c : List Nat) (h : a.length + b.length + c.length ≤ n) (h2 : c.length ≤ 1048576) : (jB n a b []).appendE nB c.length = 0 ∧ (jB n a b []).appendM nB c = jB n a b c := by
  have hl : (jB n a b []).left = n - (a.length + b.length) := by
    show n - (0 + (a.length + (b.length + 0))) = _
    rw [Nat.zero_add]; rfl
  exact append_eq (jB n a b []) nB c 2 ⟨[], 0⟩ (by kernel_rfl) (by kernel_rfl) rfl (by rw [hl]; omega) (by simp only [List.length_nil]; omega)
theorem jB_all (n : Nat) (a b c : List Nat) : (jB n a b c).all nB = c ∧ (jB n a b c).all nQ = b ∧ (jB n a b c).miss nB = 0 := ⟨by kernel_rfl, by kernel_rfl, by kernel_rfl⟩
theorem jC_make (n : Nat) (a b c : List Nat) : (jB n a b c).createE nC = 0 ∧ (jB n a b c).createM nC = jC n a b c [] := ⟨by kernel_rfl, by kernel_rfl⟩
theorem jC_append (n : Nat) (a b c e : List Nat) (h : a.length + b.length + c.length + e.length ≤ n) (h2 : e.length ≤ 1048576) : (jC n a b c []).appendE nC e.length = 0 ∧ (jC n a b c []).appendM nC e = jC n a b c e := by
  have hl : (jC n a b c []).left = n - (a.length + b.length + c.length) := by
    show n - (c.length + (0 + (a.length + (b.length + 0)))) = _
    rw [Nat.zero_add, Nat.add_zero, Nat.add_comm c.length]
  exact append_eq (jC n a b c []) nC e 3 ⟨[], 0⟩ (by kernel_rfl) (by kernel_rfl) rfl (by rw [hl]; omega) (by simp only [List.length_nil]; omega)
theorem jC_all (n : Nat) (a b c e : List Nat) : (jC n a b c e).all nB = c ∧ (jC n a b c e).all nC = e ∧ (jC n a b c e).miss nB = 0 ∧ (jC n a b c e).miss nC = 0 := ⟨by kernel_rfl, by kernel_rfl, by kernel_rfl, by kernel_rfl⟩

/-- as bytes_x; and it is an own row -/
theorem bytes_own {w0 w : World} {d : Nat} {M : DiskM} {X : List (Nat × Obj)} (h : HasX w0 w d M X) (nm : ByteArray) (hs : nm.size ≤ 4294967296) {l : List Nat} (hl : M.all nm = l) :
    Calls Try.prog 19 #[.pointer (some ⟨d, 0, none⟩), .string nm] w fun e w' => ∃ ao cap, e = .returned (.slice ao l.length cap) ∧ Row8 w' ao l.length cap l ∧ Below w.heap.size w w' ∧ w'.ownsRow w.heap.size 5 1 (.slice ao l.length cap) l.length (cells8 l) := by
  subst hl
  obtain ⟨L, rfl, h2, h3, h4⟩ := h
  have H := Lib.hid h2.disk
  have hsz := sizeN_le h2.disk nm
  clear h2 h3 h4
  go_enter Try.func19, Try.ntmps19
  go_wp2_with fail
  refine (size_any L M nm w H.out hs).mono ?_
  rintro e w1 ⟨rfl, hb1⟩
  have H1 := Lib.hid (H.out.below hb1)
  have HB1 := Lib.hid hb1
  clear hb1
  go_wp2_with fail
  refine (read_any L M nm 0 (M.sizeN nm) (by omega) (by omega) w1 H1.out hs).mono ?_
  rintro e w2 ⟨v, rfl, hown, hb2⟩
  rw [all_read] at hown
  obtain ⟨ao, cap, rfl, hrow, _⟩ := Row8.of_owns hown (all_byte H1.out nm).1
  have HR := Lib.hid hrow
  have HOWN := Lib.hid (ownsRow_base hown fun k hk => Nat.le_trans HB1.out.size (hown.lt k hk).1)
  have HB2 := Lib.hid (below_next HB1.out hb2)
  clear hown hb2 hrow
  go_wp2
  go_ret
  exact ⟨_, _, rfl, HR.out, HB2.out, HOWN.out⟩

/-- a row that came in lies apart from what the call makes -/
theorem apart_old {w0 w : World} {d : Nat} {M : DiskM} {X : List (Nat × Obj)} {S : Nat → Prop} (h : HasS w0 w d M X S) {v : Value} (hv : ∀ g, v.ownBlock = some g → w0.heap.size ≤ g) {ao : Option Addr} {n cap : Nat} {rs : List (List Nat)} (hr : RowR w0 ao n cap rs) : Apart w S v ao n cap rs := by
  refine ⟨hr.kept h.below, fun a ha j r hr' aj cj hc b hb hn => ?_⟩
  obtain ⟨ak, ck, h1, h2⟩ := hr.cell a ha j r hr'
  have h3 := (h.below.cell (p := a.add j) (World.block_lt_of_cell? w0 _ h1)).trans h1
  rw [hc] at h3
  simp only [Option.some.injEq, Value.slice.injEq] at h3
  have h4 := h2.lt b (by rw [← h3.1]; exact hb) hn
  exact ⟨fun hS => by have := h.from _ hS; omega, fun e => by have := hv _ e; omega⟩

/-- between two rounds of the second loop -/
def JoinRel (w : World) (d j q : Nat) (all rt : List (List Nat)) (v : Value) (vs : List Value) (i : Nat) (wr : World) : Prop :=
  ∃ S, HasS w wr d (jA 1000000 (allB 0 all) (allB 0 (rt.take i))) [(q, jObj d nQ (allB 0 (rt.take i)).length), (j, jObj d nJ (allB 0 all).length)] S ∧ PutW wr w.heap.size S v vs all

set_option maxRecDepth 100000 in
set_option maxHeartbeats 8000000 in
theorem walk_JournalsJoin (ao : Option Addr) (n cap : Nat) (rs : List (List Nat)) {w : World} (hr : RowB w ao n cap rs) (bo : Option Addr) (m cap2 : Nat) (rt : List (List Nat)) (ht : RowB w bo m cap2 rt) :
    Calls Try.prog 5 #[.slice ao n cap, .slice bo m cap2] w fun e w' => e = .returned (.bool true) ∧ Below w.heap.size w w' := by
  have HRB := Lib.hid hr
  have HTB := Lib.hid ht
  obtain rfl := hr.row.len
  obtain rfl := ht.row.len
  by_cases hbig : bigR rs
  · have HBIG := Lib.hid hbig
    clear hr hbig ht
    go_enter Try.func5, Try.ntmps5
    go_wp2_with fail
    refine (many_yes2a _ ao bo rs.length rt.length cap cap2 rs rt _ (by exact cell_of_block (heap_alloc_new _ _) 0) (by exact cell_of_block (heap_alloc_new _ _) 1) (HRB.out.kept (below_alloc _ _)) (HTB.out.kept (below_alloc _ _)) HBIG.out).mono ?_
    rintro e w1 ⟨rfl, b1⟩
    have B1 := Lib.hid (below_next (below_alloc _ _) b1)
    clear b1
    go_wp2_with fail
    refine (alive_yes w1).mono ?_
    rintro e w2 ⟨rfl, b2⟩
    have B2 := Lib.hid (below_next B1.out b2)
    clear b2
    go_wp2
    go_ret
    exact ⟨rfl, B2.out⟩
  · by_cases hbig2 : bigR rt
    · have HBIG := Lib.hid hbig
      have HBIG2 := Lib.hid hbig2
      clear hr hbig ht hbig2
      go_enter Try.func5, Try.ntmps5
      go_wp2_with fail
      refine (many_yes2b _ ao bo rs.length rt.length cap cap2 rs rt _ (by exact cell_of_block (heap_alloc_new _ _) 0) (by exact cell_of_block (heap_alloc_new _ _) 1) (HRB.out.kept (below_alloc _ _)) (HTB.out.kept (below_alloc _ _)) HBIG.out HBIG2.out).mono ?_
      rintro e w1 ⟨rfl, b1⟩
      have B1 := Lib.hid (below_next (below_alloc _ _) b1)
      clear b1
      go_wp2_with fail
      refine (alive_yes w1).mono ?_
      rintro e w2 ⟨rfl, b2⟩
      have B2 := Lib.hid (below_next B1.out b2)
      clear b2
      go_wp2
      go_ret
      exact ⟨rfl, B2.out⟩
    · obtain ⟨h40, hea⟩ := few_each hbig
      obtain ⟨h40t, heat⟩ := few_each hbig2
      have HEA := Lib.hid hea
      have HEAT := Lib.hid heat
      have HBIG := Lib.hid hbig
      have HBIG2 := Lib.hid hbig2
      have hlr : (allB 0 rs).length ≤ 50000 := by have := few_room hbig rs.length; rwa [List.take_length] at this
      have hlt2 : (allB 0 rt).length ≤ 50000 := by have := few_room hbig2 rt.length; rwa [List.take_length] at this
      clear hr hbig ht hbig2 hea heat
      go_enter Try.func5, Try.ntmps5
      go_wp2_with fail
      refine (many_no2 _ ao bo rs.length rt.length cap cap2 rs rt _ (by exact cell_of_block (heap_alloc_new _ _) 0) (by exact cell_of_block (heap_alloc_new _ _) 1) (HRB.out.kept (below_alloc _ _)) (HTB.out.kept (below_alloc _ _)) HBIG.out HBIG2.out).mono ?_
      rintro e w1 ⟨rfl, b1⟩
      have B1 := Lib.hid (below_next (below_alloc _ _) b1)
      clear b1
      go_wp2_with fail
      refine (opened_x w w1 B1.out 1000000 (by omega) (by omega)).mono ?_
      rintro e w2 ⟨d, j, rfl, h2⟩
      have H2 := Lib.hid h2
      clear h2
      go_wp2_with fail
      refine (open_new_x H2.out nQ (by decide) (jA_open _).1 (jA_open _).2.1 (jA_open _).2.2).mono ?_
      rintro e w3 ⟨q, a3, c3, rfl, h3, _, _⟩
      have H3 := Lib.hid h3.swap
      clear h3 H2
      go_wp2_with fail
      go_loopw [10] (fun iv wr => ∃ (i : Nat), i ≤ rs.length ∧ iv = .int .i64 i ∧ Hid (HasX w wr d (jA 1000000 (allB 0 (rs.take i)) []) [(j, jObj d nJ (allB 0 (rs.take i)).length), (q, jObj d nQ 0)])) (fun iv _ => rs.length - (RowKit.intOf iv).toNat)
      case atStart => exact ⟨0, by omega, rfl, H3⟩
      case round =>
        clear H3 B1
        obtain ⟨i, hi, rfl, HX⟩ := hrel
        by_cases hlt : i < rs.length
        · obtain ⟨b, off, x, aj, cj, rfl, hx, hcell, hxr⟩ := HRB.out.row.one i hlt
          have hx4 := HEA.out x (List.mem_of_getElem? hx)
          have HXR := Lib.hid hxr
          have HNX := Lib.hid (take_next hx)
          have hfit := few_room HBIG.out (i + 1)
          rw [HNX.out] at hfit
          have y1 := hcell wr HX.out.below
          clear hcell hxr hx
          generalize rs.take i = done at *
          have hadd := Lib.hid (jA_addJ 1000000 done [] x (by omega) (by simp only [List.length_nil]; omega) (by omega))
          go_wp2_with fail
          refine (add_x HX.out (by decide) aj x.length cj x (HXR.out.kept HX.out.below) (k := 0) (by rw [hadd.out.1]; rfl) hadd.out.2.1 hadd.out.2.2).mono ?_
          rintro e wa ⟨rfl, hxa⟩
          have HA := Lib.hid hxa
          clear hxa HX hadd y1
          go_wp2
          go_roundw
          case rel => exact ⟨i + 1, by omega, by go_num, Lib.hid (by rw [HNX.out]; exact HA.out)⟩
          case measure => simp [RowKit.intOf]; omega
        · obtain rfl : i = rs.length := by omega
          rw [List.take_length] at HX
          obtain ⟨S, hs⟩ := HX.out.s
          have HS := Lib.hid hs
          clear hs HX
          have hms := fun (n : Nat) (h : n ≤ 200) (W : World) => run_make8 n (by omega) W
          have HMS := Lib.hid hms
          clear hms
          go_wp2_with (at_builtin; refine wpList_puts rfl _ _ rfl (.slice none 0 0) [] [] ao rs.length cap rs rfl rfl (B := w.heap.size) HS.out.below.size HS.out.lt (putW_nil _ _ S) (apart_old HS.out (fun g hg => by simp [Value.ownBlock] at hg) HRB.out.row) rs.length (by simp) (by omega) ?_)
          intro vo vc vs w4 k4 p4 b4 _
          have HS4 := Lib.hid (HS.out.same k4 (HS.out.below.trans b4))
          have HP4 := Lib.hid p4
          clear k4 p4 b4 HS
          go_wp2_with fail
          refine (bytes_x HS4.out.x nJ (by decide) (jA_all _ _ _).1).mono ?_
          rintro e w5 ⟨a5, q5, rfl, _, b5, _⟩
          have HS := Lib.hid (HS4.out.kept b5)
          have HP := Lib.hid (HP4.out.kept b5)
          clear b5 HS4 HP4
          have hlr' := hlr
          generalize hL : (allB 0 rs).length = L at *
          have hmodlt := Nat.mod_lt L (show 0 < 128 by omega)
          by_cases hmod : L % 128 = 0
          · have hmod' : (L : Int) % 128 = 0 := by omega
            obtain ⟨all, hall⟩ : ∃ all, all = rs := ⟨_, rfl⟩
            have HEND : Hid ((allB 0 all).length % 128 = 0) := Lib.hid (by rw [hall, hL]; exact hmod)
            have hal : (allB 0 all).length ≤ 60000 := by rw [hall, hL]; omega
            have HLN : Hid (all.length = rs.length ∧ rs.length ≤ 41) := Lib.hid ⟨by rw [hall], by omega⟩
            have HSx : Hid (HasS w w5 d (jA 1000000 (allB 0 all) []) [(j, jObj d nJ (allB 0 all).length), (q, jObj d nQ 0)] S) := Lib.hid (by rw [hall, hL]; exact HS.out)
            have HPx : Hid (PutW w5 w.heap.size S (.slice vo rs.length vc) vs all) := Lib.hid (by rw [hall]; exact HP.out)
            clear HS HP
            have HS := HSx
            have HP := HPx
            clear HSx HPx
            clear hall hmod hlr'
            go_wp2_with fail
            try simp only [hmod']
            clear hmod'
            go_loopw [14] (fun iv wr => ∃ (i : Nat), i ≤ rt.length ∧ iv = .int .i64 i ∧ Hid (JoinRel w d j q all rt (.slice vo rs.length vc) vs i wr)) (fun iv _ => rt.length - (RowKit.intOf iv).toNat)
            case atStart => exact ⟨0, by omega, rfl, Lib.hid ⟨S, HS.out.perm (List.Perm.swap _ _ _), HP.out⟩⟩
            case round =>
              clear HS HP
              obtain ⟨i, hi, rfl, HREL⟩ := hrel
              obtain ⟨S, hs, hp⟩ := HREL.out
              have HS := Lib.hid hs
              have HP := Lib.hid hp
              clear hs hp HREL
              by_cases hlt : i < rt.length
              · obtain ⟨b, off, x, aj, cj, rfl, hx, hcell, hxr⟩ := HTB.out.row.one i hlt
                have hx4 := HEAT.out x (List.mem_of_getElem? hx)
                have HXR := Lib.hid hxr
                have HNX := Lib.hid (take_next hx)
                have hfit := few_room HBIG2.out (i + 1)
                rw [HNX.out] at hfit
                have y1 := hcell wr HS.out.below
                clear hcell hxr hx
                generalize rt.take i = done at *
                have hadd := Lib.hid (jA_addQ 1000000 (allB 0 all) done x (by omega) (by omega) (by omega))
                go_wp2_with fail
                refine (add_s HS.out (by decide) aj x.length cj x (HXR.out.kept HS.out.below) (k := 0) (by rw [hadd.out.1]; rfl) hadd.out.2.1 hadd.out.2.2).mono ?_
                rintro e wa ⟨rfl, SA, hsa, ma⟩
                have HA := Lib.hid hsa
                have HPA := Lib.hid (HP.out.moved ma)
                clear hsa ma HS HP hadd y1
                go_wp2
                go_roundw
                case rel => exact ⟨i + 1, by omega, by go_num, Lib.hid ⟨SA, by rw [HNX.out]; exact HA.out, HPA.out⟩⟩
                case measure => simp [RowKit.intOf]; omega
              · obtain rfl : i = rt.length := by omega
                rw [List.take_length] at HS
                go_wp2_with fail
                refine (bytes_own HS.out.x nJ (by decide) (jA_all _ _ _).1).mono ?_
                rintro e w6 ⟨a6, q6, rfl, r6, b6, o6⟩
                have HO6 := Lib.hid o6
                have HY6 := Lib.hid r6.byte
                have B6 := Lib.hid b6
                clear b6 o6 r6
                go_wp2_with fail
                refine (bytes_x (HS.out.kept B6.out).x nQ (by decide) (jA_all _ _ _).2).mono ?_
                rintro e w7 ⟨a7, q7, rfl, r7, b7, _⟩
                have HR7 := Lib.hid r7
                have HO7 := Lib.hid (ownsRow_same HO6.out fun k hk => b7.block k (HO6.out.lt k hk).2)
                have B7 := Lib.hid (below_next B6.out b7)
                clear b7 r7 HO6 B6
                go_wp2_with (at_builtin; refine wpList_append_bytes rfl _ _ rfl _ _ (allB 0 all) rfl (ownsRow_base HO7.out fun _ _ => Nat.zero_le _) a7 (allB 0 rt).length q7 (allB 0 rt) rfl HR7.out (by omega) ?_)
                intro v8 w8 o8 g8 n8
                have hlab : (allB 0 all ++ allB 0 rt).length = (allB 0 all).length + (allB 0 rt).length := List.length_append
                have hb8 : Below wr.heap.size wr w8 := B7.out.grown g8 B7.out.size (fun k hk => (HO7.out.lt k hk).1)
                have ho8 := ownsRow_base (base' := wr.heap.size) o8 (fun k hk => by
                  rcases n8 with e | ⟨b, e, hb⟩
                  · exact (HO7.out.lt k (e.symm.trans hk)).1
                  · have e3 := e.symm.trans hk
                    obtain rfl := Option.some.inj e3
                    exact Nat.le_trans B7.out.size hb)
                obtain ⟨b8o, b8c, he8, hr8, ha8⟩ := Row8.of_owns (l := allB 0 all ++ allB 0 rt) (by rw [hlab]; exact ho8) (fun x hx => by
                  rcases List.mem_append.1 hx with h | h
                  · exact HY6.out x h
                  · exact HR7.out.byte x h)
                rw [hlab] at he8 hr8
                subst he8
                have HR8 := Lib.hid hr8
                have HLAB := Lib.hid hlab
                have HN8 : Hid (∀ a, b8o = some a → ¬ S a.block) := Lib.hid fun a ha hS => by
                  have := (ha8 a ha).1
                  have := HS.out.lt _ hS
                  omega
                have HS8 := Lib.hid (HS.out.kept hb8)
                have HP8 := Lib.hid (HP.out.kept hb8)
                have hm : ((allB 0 all).length : Int) % 128 = 0 := by have := HEND.out; omega
                clear hlab hr8 ha8 ho8 o8 g8 n8 hb8 HS HP HO7 B7 HR7
                go_wp2_with fail
                refine (bytes_x HS8.out.x nJ (by decide) (jA_all _ _ _).1).mono ?_
                rintro e w9 ⟨a9, q9, rfl, _, b9, _⟩
                have HS9 := Lib.hid (HS8.out.kept b9)
                have HP9 := Lib.hid (HP8.out.kept b9)
                have HR9 := Lib.hid (HR8.out.kept b9)
                clear b9 HS8 HP8 HR8
                go_wp2_with fail
                have hmk := jB_make 1000000 (allB 0 all) (allB 0 rt)
                refine (create_s HS9.out nB (by decide) (k := 0) (by rw [hmk.1]; rfl) hmk.2).mono ?_
                rintro e w10 ⟨rfl, S10, h10, m10⟩
                have HS10 := Lib.hid h10
                have HP10 := Lib.hid (HP9.out.moved m10)
                have HR10 := Lib.hid (HR9.out.moved m10 HN8.out)
                clear h10 m10 HS9 HP9 HR9 hmk HN8
                go_wp2_with fail
                have hap := jB_append 1000000 (allB 0 all) (allB 0 rt) (allB 0 all ++ allB 0 rt) (by rw [HLAB.out]; omega) (by rw [HLAB.out]; omega)
                rw [HLAB.out] at hap
                refine (append_s HS10.out nB (by decide) b8o ((allB 0 all).length + (allB 0 rt).length) b8c (allB 0 all ++ allB 0 rt) HR10.out (k := 0) (by rw [hap.1]; rfl) hap.2).mono ?_
                rintro e w11 ⟨rfl, S11, h11, m11⟩
                have HS11 := Lib.hid h11
                have HP11 := Lib.hid (HP10.out.moved m11)
                clear h11 m11 HS10 HP10 HR10 hap hm
                have hLN := HLN.out
                by_cases h0 : 0 < rt.length
                · obtain ⟨b, off, x, aj, cj, rfl, hx, hcell, hxr⟩ := HTB.out.row.one 0 h0
                  have HXC := Lib.hid hcell
                  obtain ⟨rt', hrt⟩ : ∃ t, rt = x :: t := by
                    cases rt with
                    | nil => simp at h0
                    | cons a t => simp at hx; subst hx; exact ⟨t, rfl⟩
                  have y1 := hcell w11 HS11.out.below
                  rw [Nat.add_zero] at y1
                  have hxm := hxr.room
                  clear hcell hxr hx
                  by_cases h121 : 121 < x.length
                  · have hhl := read_headless x rt' h121
                    rw [← hrt] at hhl
                    have HHL := Lib.hid hhl.1
                    have hh128 := hhl.2
                    clear hhl hrt
                    go_wp2_with fail
                    refine (bytes_x HS11.out.x nQ (by decide) (jB_all _ _ _ _).2.1).mono ?_
                    rintro e w12 ⟨a12, q12, rfl, r12, b12, n12⟩
                    have HS12 := Lib.hid (HS11.out.kept b12)
                    have HP12 := Lib.hid (HP11.out.kept b12)
                    have HR12 := Lib.hid r12
                    obtain ⟨cb, co, rfl, _⟩ := r12.lies (by omega)
                    have rm12 := r12.room
                    have rq12 := r12.most
                    have HN12 : Hid (¬ S11 cb) := Lib.hid fun hS => by
                      have := HS11.out.lt _ hS
                      have := (n12 _ rfl).1
                      simp only at this
                      omega
                    clear b12 r12 n12 HS11 HP11 y1
                    go_wp2_with fail
                    have hmk := jC_make 1000000 (allB 0 all) (allB 0 rt) (allB 0 all ++ allB 0 rt)
                    refine (create_s HS12.out nC (by decide) (k := 0) (by rw [hmk.1]; rfl) hmk.2).mono ?_
                    rintro e w13 ⟨rfl, S13, h13, m13⟩
                    have HS13 := Lib.hid h13
                    have HP13 := Lib.hid (HP12.out.moved m13)
                    have HR13 := Lib.hid (HR12.out.moved m13 (fun a ha => by obtain rfl := Option.some.inj ha; exact HN12.out))
                    clear h13 m13 HS12 HP12 HR12 hmk HN12
                    go_wp2_with fail
                    have hap := jC_append 1000000 (allB 0 all) (allB 0 rt) (allB 0 all ++ allB 0 rt) ((allB 0 rt).drop 128) (by rw [HLAB.out, List.length_drop]; omega) (by rw [List.length_drop]; omega)
                    rw [List.length_drop] at hap
                    refine (append_s HS13.out nC (by decide) (some ⟨cb, co + 128, none⟩) ((allB 0 rt).length - 128) (q12 - 128) ((allB 0 rt).drop 128) (HR13.out.from 128 (by omega) (by omega)) (k := 0) (by rw [hap.1]; rfl) hap.2).mono ?_
                    rintro e w14 ⟨rfl, S14, h14, m14⟩
                    have HS14 := Lib.hid h14
                    have HP14 := Lib.hid (HP13.out.moved m14)
                    clear h14 m14 HS13 HP13 HR13 hap
                    go_wp2_with fail
                    refine (tells_x HS14.out.x nC (by decide) (jC_all _ _ _ _ _).2.2.2 (rs := []) (by rw [(jC_all _ _ _ _ _).2.1]; exact HHL.out) none 0 0 ⟨rfl, by omega, by omega, fun _ => rfl, fun a ha => by simp at ha⟩).mono ?_
                    rintro e w15 ⟨rfl, b15⟩
                    have HS15 := Lib.hid (HS14.out.kept b15)
                    have HP15 := Lib.hid (HP14.out.kept b15)
                    clear b15 HS14 HP14
                    obtain ⟨N, hN⟩ : ∃ N, all.length + rt.length = N := ⟨_, rfl⟩
                    go_wp2_with (at_builtin; refine wpList_puts rfl _ _ rfl (.slice vo rs.length vc) vs all _ rt.length cap2 rt rfl rfl (B := w.heap.size) HS15.out.below.size HS15.out.lt HP15.out (apart_old HS15.out (fun g hg => (HP15.out.own.lt g hg).1) HTB.out.row) N hN (by omega) ?_)
                    intro vo9 vc9 vs9 w20 k20 p20 b20 _
                    have HS20 := Lib.hid (HS15.out.same k20 (HS15.out.below.trans b20))
                    obtain ⟨ao', cap', he, hrow⟩ := p20.row
                    have HROW := Lib.hid hrow
                    obtain ⟨rfl, hN2, rfl⟩ := Value.slice.inj he
                    clear he hrow p20 k20 b20 HS15 HP15 hN2
                    go_wp2_with fail
                    refine (tells_x HS20.out.x nB (by decide) (jC_all _ _ _ _ _).2.2.1 (rs := all ++ rt) (by rw [(jC_all _ _ _ _ _).1, ← join_all all rt HEND.out]; exact (read_all (all ++ rt)).1) _ N _ (by have h := HROW.out; rwa [List.length_append, hN] at h)).mono ?_
                    rintro e w21 ⟨rfl, b21⟩
                    have HE := Lib.hid (HS20.out.kept b21).below
                    clear b21
                    go_wp2
                    go_ret
                    exact ⟨rfl, HE.out⟩
                  · clear hrt
                    obtain ⟨N, hN⟩ : ∃ N, all.length + rt.length = N := ⟨_, rfl⟩
                    go_wp2_with (at_builtin; refine wpList_puts rfl _ _ rfl (.slice vo rs.length vc) vs all _ rt.length cap2 rt rfl rfl (B := w.heap.size) HS11.out.below.size HS11.out.lt HP11.out (apart_old HS11.out (fun g hg => (HP11.out.own.lt g hg).1) HTB.out.row) N hN (by omega) ?_)
                    intro vo9 vc9 vs9 w20 k20 p20 b20 _
                    have HS20 := Lib.hid (HS11.out.same k20 (HS11.out.below.trans b20))
                    obtain ⟨ao', cap', he, hrow⟩ := p20.row
                    have HROW := Lib.hid hrow
                    obtain ⟨rfl, hN2, rfl⟩ := Value.slice.inj he
                    clear he hrow p20 k20 b20 HS11 HP11 hN2
                    go_wp2_with fail
                    refine (tells_x HS20.out.x nB (by decide) (jB_all _ _ _ _).2.2 (rs := all ++ rt) (by rw [(jB_all _ _ _ _).1, ← join_all all rt HEND.out]; exact (read_all (all ++ rt)).1) _ N _ (by have h := HROW.out; rwa [List.length_append, hN] at h)).mono ?_
                    rintro e w21 ⟨rfl, b21⟩
                    have HE := Lib.hid (HS20.out.kept b21).below
                    clear b21
                    go_wp2
                    go_ret
                    exact ⟨rfl, HE.out⟩
                · skip
                  obtain ⟨N, hN⟩ : ∃ N, all.length + rt.length = N := ⟨_, rfl⟩
                  go_wp2_with (at_builtin; refine wpList_puts rfl _ _ rfl (.slice vo rs.length vc) vs all _ rt.length cap2 rt rfl rfl (B := w.heap.size) HS11.out.below.size HS11.out.lt HP11.out (apart_old HS11.out (fun g hg => (HP11.out.own.lt g hg).1) HTB.out.row) N hN (by omega) ?_)
                  intro vo9 vc9 vs9 w20 k20 p20 b20 _
                  have HS20 := Lib.hid (HS11.out.same k20 (HS11.out.below.trans b20))
                  obtain ⟨ao', cap', he, hrow⟩ := p20.row
                  have HROW := Lib.hid hrow
                  obtain ⟨rfl, hN2, rfl⟩ := Value.slice.inj he
                  clear he hrow p20 k20 b20 HS11 HP11 hN2
                  go_wp2_with fail
                  refine (tells_x HS20.out.x nB (by decide) (jB_all _ _ _ _).2.2 (rs := all ++ rt) (by rw [(jB_all _ _ _ _).1, ← join_all all rt HEND.out]; exact (read_all (all ++ rt)).1) _ N _ (by have h := HROW.out; rwa [List.length_append, hN] at h)).mono ?_
                  rintro e w21 ⟨rfl, b21⟩
                  have HE := Lib.hid (HS20.out.kept b21).below
                  clear b21
                  go_wp2
                  go_ret
                  exact ⟨rfl, HE.out⟩
          · subst hL
            have hfit : (allB 0 (rs ++ [fillOf (allB 0 rs).length])).length ≤ 60000 := by
              rw [allB_snoc, Nat.zero_add, List.length_append]
              have h := (writtenB_len (fillOf (allB 0 rs).length) (allB 0 rs).length).1
              have h2 := fill_len (allB 0 rs).length
              omega
            have hend := Lib.hid (fill_end rs hmod)
            have hadd := Lib.hid (jA_addJ 1000000 rs [] (fillOf (allB 0 rs).length) (by have := fill_len (allB 0 rs).length; omega) (by simp only [List.length_nil]; omega) (by omega))
            have hfo : fillOf (allB 0 rs).length = if 128 - (allB 0 rs).length % 128 > 7 then List.replicate (128 - (allB 0 rs).length % 128 - 7) 0 else List.replicate 121 0 := rfl
            generalize fillOf (allB 0 rs).length = fl at *
            obtain ⟨lf, hmod', hlfe, h1, h2⟩ : ∃ lf : Nat, (128 : Int) - ((allB 0 rs).length : Int) % 128 = (lf : Int) ∧ 128 - (allB 0 rs).length % 128 = lf ∧ 1 ≤ lf ∧ lf ≤ 127 := ⟨128 - (allB 0 rs).length % 128, by omega, rfl, by omega, by omega⟩
            rw [hlfe] at hfo
            have m121 : ∀ W : World, (Instr.makeSlice 22 (.int .i64 121) (.int .i64 121)).run Try.prog W = .ok (.slice (some ⟨W.heap.size, 0, none⟩) 121 121) (W.alloc (.cells (zeros8 121) 5)) := run_make8 121 (by omega)
            by_cases h7 : 7 < lf
            · skip
              obtain rfl : fl = List.replicate (lf - 7) 0 := by rw [hfo]; rw [if_pos h7]
              clear hfo
              have m7 : ∀ W : World, (Instr.makeSlice 22 (.int .i64 ((lf : Int) - 7)) (.int .i64 ((lf : Int) - 7))).run Try.prog W = .ok (.slice (some ⟨W.heap.size, 0, none⟩) (lf - 7) (lf - 7)) (W.alloc (.cells (zeros8 (lf - 7)) 5)) := fun W => by have := run_make8 (lf - 7) (by omega) W; rwa [show ((lf - 7 : Nat) : Int) = (lf : Int) - 7 by omega] at this
              have HZ := Lib.hid (row_zeros (w5.alloc (.cells (zeros8 121) 5)) (lf - 7) (w5.heap.size + 1) (0, 0) (by simp) (by omega))
              have HB2 : Hid (Below w5.heap.size w5 ((w5.alloc (.cells (zeros8 121) 5)).alloc (.cells (zeros8 (lf - 7)) 5))) := Lib.hid (below_step_a (below_alloc w5 _) _)
              have HB3 : Hid (Below w5.heap.size w5 (((w5.alloc (.cells (zeros8 121) 5)).alloc (.cells (zeros8 (lf - 7)) 5)).alloc (.cells #[.slice (some ⟨(w5.heap.size + 1), 0, none⟩) (lf - 7) (lf - 7)] 22))) := Lib.hid (below_step_a HB2.out _)
              have HAP := Lib.hid (apart_fill (W := ((w5.alloc (.cells (zeros8 121) 5)).alloc (.cells (zeros8 (lf - 7)) 5))) (S := S) (w5.heap.size + 2) (lf - 7) (.slice vo rs.length vc) (List.replicate (lf - 7) 0) (by simp) (w5.heap.size + 1) HZ.out List.length_replicate (fun hS => by have := HS.out.lt _ hS; omega) (fun e => by have := (HP.out.own.lt _ e).2; omega))
              go_wp2_with (at_builtin; refine wpList_puts rfl _ _ rfl (.slice vo rs.length vc) vs rs (some ⟨(w5.heap.size + 2), 0, none⟩) 1 1 [List.replicate (lf - 7) 0] rfl rfl (B := w.heap.size) (HS.out.kept HB3.out).below.size (HS.out.kept HB3.out).lt (HP.out.kept HB3.out) HAP.out (rs.length + 1) rfl (by omega) ?_)
              intro vo2 vc2 vs2 w6 k6 p6 b6 g6
              have HS6 := Lib.hid ((HS.out.kept HB3.out).same k6 ((HS.out.kept HB3.out).below.trans b6))
              have HP6 := Lib.hid p6
              have HF6 := Lib.hid ((HZ.out.alloc (.cells #[.slice (some ⟨(w5.heap.size + 1), 0, none⟩) (lf - 7) (lf - 7)] 22)).grown g6 (fun a ha _ e => by obtain rfl := Option.some.inj ha; have := (HP.out.own.lt _ e).2; simp only at this; omega))
              clear k6 p6 b6 g6 HS HP HZ HB2 HB3 HAP m121
              go_wp2_with fail
              refine (add_s HS6.out (by decide) (some ⟨(w5.heap.size + 1), 0, none⟩) (lf - 7) (lf - 7) (List.replicate (lf - 7) 0) HF6.out (k := 0) (by rw [hadd.out.1]; rfl) hadd.out.2.1 hadd.out.2.2).mono ?_
              rintro e w7a ⟨rfl, S, h7a, m7a⟩
              obtain ⟨all, hall⟩ : ∃ all, all = rs ++ [List.replicate (lf - 7) 0] := ⟨_, rfl⟩
              have HEND : Hid ((allB 0 all).length % 128 = 0) := Lib.hid (by rw [hall]; exact hend.out)
              have hal : (allB 0 all).length ≤ 60000 := by rw [hall]; exact hfit
              have HLN : Hid (all.length = rs.length + 1 ∧ rs.length ≤ 41) := Lib.hid ⟨by rw [hall, List.length_append]; rfl, by omega⟩
              have HS : Hid (HasS w w7a d (jA 1000000 (allB 0 all) []) [(j, jObj d nJ (allB 0 all).length), (q, jObj d nQ 0)] S) := Lib.hid (by rw [hall]; exact h7a)
              have HP : Hid (PutW w7a w.heap.size S (.slice vo2 (rs.length + 1) vc2) vs2 all) := Lib.hid (by rw [hall]; exact HP6.out.moved m7a)
              clear hall h7a m7a HS6 HP6 HF6 hadd hend hfit
              go_wp2_with fail
              try simp only [hmod']
              clear hmod'
              go_loopw [14] (fun iv wr => ∃ (i : Nat), i ≤ rt.length ∧ iv = .int .i64 i ∧ Hid (JoinRel w d j q all rt (.slice vo2 (rs.length + 1) vc2) vs2 i wr)) (fun iv _ => rt.length - (RowKit.intOf iv).toNat)
              case atStart => exact ⟨0, by omega, rfl, Lib.hid ⟨S, HS.out.perm (List.Perm.swap _ _ _), HP.out⟩⟩
              case round =>
                clear HS HP
                obtain ⟨i, hi, rfl, HREL⟩ := hrel
                obtain ⟨S, hs, hp⟩ := HREL.out
                have HS := Lib.hid hs
                have HP := Lib.hid hp
                clear hs hp HREL
                by_cases hlt : i < rt.length
                · obtain ⟨b, off, x, aj, cj, rfl, hx, hcell, hxr⟩ := HTB.out.row.one i hlt
                  have hx4 := HEAT.out x (List.mem_of_getElem? hx)
                  have HXR := Lib.hid hxr
                  have HNX := Lib.hid (take_next hx)
                  have hfit := few_room HBIG2.out (i + 1)
                  rw [HNX.out] at hfit
                  have y1 := hcell wr HS.out.below
                  clear hcell hxr hx
                  generalize rt.take i = done at *
                  have hadd := Lib.hid (jA_addQ 1000000 (allB 0 all) done x (by omega) (by omega) (by omega))
                  go_wp2_with fail
                  refine (add_s HS.out (by decide) aj x.length cj x (HXR.out.kept HS.out.below) (k := 0) (by rw [hadd.out.1]; rfl) hadd.out.2.1 hadd.out.2.2).mono ?_
                  rintro e wa ⟨rfl, SA, hsa, ma⟩
                  have HA := Lib.hid hsa
                  have HPA := Lib.hid (HP.out.moved ma)
                  clear hsa ma HS HP hadd y1
                  go_wp2
                  go_roundw
                  case rel => exact ⟨i + 1, by omega, by go_num, Lib.hid ⟨SA, by rw [HNX.out]; exact HA.out, HPA.out⟩⟩
                  case measure => simp [RowKit.intOf]; omega
                · obtain rfl : i = rt.length := by omega
                  rw [List.take_length] at HS
                  go_wp2_with fail
                  refine (bytes_own HS.out.x nJ (by decide) (jA_all _ _ _).1).mono ?_
                  rintro e w6 ⟨a6, q6, rfl, r6, b6, o6⟩
                  have HO6 := Lib.hid o6
                  have HY6 := Lib.hid r6.byte
                  have B6 := Lib.hid b6
                  clear b6 o6 r6
                  go_wp2_with fail
                  refine (bytes_x (HS.out.kept B6.out).x nQ (by decide) (jA_all _ _ _).2).mono ?_
                  rintro e w7 ⟨a7, q7, rfl, r7, b7, _⟩
                  have HR7 := Lib.hid r7
                  have HO7 := Lib.hid (ownsRow_same HO6.out fun k hk => b7.block k (HO6.out.lt k hk).2)
                  have B7 := Lib.hid (below_next B6.out b7)
                  clear b7 r7 HO6 B6
                  go_wp2_with (at_builtin; refine wpList_append_bytes rfl _ _ rfl _ _ (allB 0 all) rfl (ownsRow_base HO7.out fun _ _ => Nat.zero_le _) a7 (allB 0 rt).length q7 (allB 0 rt) rfl HR7.out (by omega) ?_)
                  intro v8 w8 o8 g8 n8
                  have hlab : (allB 0 all ++ allB 0 rt).length = (allB 0 all).length + (allB 0 rt).length := List.length_append
                  have hb8 : Below wr.heap.size wr w8 := B7.out.grown g8 B7.out.size (fun k hk => (HO7.out.lt k hk).1)
                  have ho8 := ownsRow_base (base' := wr.heap.size) o8 (fun k hk => by
                    rcases n8 with e | ⟨b, e, hb⟩
                    · exact (HO7.out.lt k (e.symm.trans hk)).1
                    · have e3 := e.symm.trans hk
                      obtain rfl := Option.some.inj e3
                      exact Nat.le_trans B7.out.size hb)
                  obtain ⟨b8o, b8c, he8, hr8, ha8⟩ := Row8.of_owns (l := allB 0 all ++ allB 0 rt) (by rw [hlab]; exact ho8) (fun x hx => by
                    rcases List.mem_append.1 hx with h | h
                    · exact HY6.out x h
                    · exact HR7.out.byte x h)
                  rw [hlab] at he8 hr8
                  subst he8
                  have HR8 := Lib.hid hr8
                  have HLAB := Lib.hid hlab
                  have HN8 : Hid (∀ a, b8o = some a → ¬ S a.block) := Lib.hid fun a ha hS => by
                    have := (ha8 a ha).1
                    have := HS.out.lt _ hS
                    omega
                  have HS8 := Lib.hid (HS.out.kept hb8)
                  have HP8 := Lib.hid (HP.out.kept hb8)
                  have hm : ((allB 0 all).length : Int) % 128 = 0 := by have := HEND.out; omega
                  clear hlab hr8 ha8 ho8 o8 g8 n8 hb8 HS HP HO7 B7 HR7
                  go_wp2_with fail
                  refine (bytes_x HS8.out.x nJ (by decide) (jA_all _ _ _).1).mono ?_
                  rintro e w9 ⟨a9, q9, rfl, _, b9, _⟩
                  have HS9 := Lib.hid (HS8.out.kept b9)
                  have HP9 := Lib.hid (HP8.out.kept b9)
                  have HR9 := Lib.hid (HR8.out.kept b9)
                  clear b9 HS8 HP8 HR8
                  go_wp2_with fail
                  have hmk := jB_make 1000000 (allB 0 all) (allB 0 rt)
                  refine (create_s HS9.out nB (by decide) (k := 0) (by rw [hmk.1]; rfl) hmk.2).mono ?_
                  rintro e w10 ⟨rfl, S10, h10, m10⟩
                  have HS10 := Lib.hid h10
                  have HP10 := Lib.hid (HP9.out.moved m10)
                  have HR10 := Lib.hid (HR9.out.moved m10 HN8.out)
                  clear h10 m10 HS9 HP9 HR9 hmk HN8
                  go_wp2_with fail
                  have hap := jB_append 1000000 (allB 0 all) (allB 0 rt) (allB 0 all ++ allB 0 rt) (by rw [HLAB.out]; omega) (by rw [HLAB.out]; omega)
                  rw [HLAB.out] at hap
                  refine (append_s HS10.out nB (by decide) b8o ((allB 0 all).length + (allB 0 rt).length) b8c (allB 0 all ++ allB 0 rt) HR10.out (k := 0) (by rw [hap.1]; rfl) hap.2).mono ?_
                  rintro e w11 ⟨rfl, S11, h11, m11⟩
                  have HS11 := Lib.hid h11
                  have HP11 := Lib.hid (HP10.out.moved m11)
                  clear h11 m11 HS10 HP10 HR10 hap hm
                  have hLN := HLN.out
                  by_cases h0 : 0 < rt.length
                  · obtain ⟨b, off, x, aj, cj, rfl, hx, hcell, hxr⟩ := HTB.out.row.one 0 h0
                    have HXC := Lib.hid hcell
                    obtain ⟨rt', hrt⟩ : ∃ t, rt = x :: t := by
                      cases rt with
                      | nil => simp at h0
                      | cons a t => simp at hx; subst hx; exact ⟨t, rfl⟩
                    have y1 := hcell w11 HS11.out.below
                    rw [Nat.add_zero] at y1
                    have hxm := hxr.room
                    clear hcell hxr hx
                    by_cases h121 : 121 < x.length
                    · have hhl := read_headless x rt' h121
                      rw [← hrt] at hhl
                      have HHL := Lib.hid hhl.1
                      have hh128 := hhl.2
                      clear hhl hrt
                      go_wp2_with fail
                      refine (bytes_x HS11.out.x nQ (by decide) (jB_all _ _ _ _).2.1).mono ?_
                      rintro e w12 ⟨a12, q12, rfl, r12, b12, n12⟩
                      have HS12 := Lib.hid (HS11.out.kept b12)
                      have HP12 := Lib.hid (HP11.out.kept b12)
                      have HR12 := Lib.hid r12
                      obtain ⟨cb, co, rfl, _⟩ := r12.lies (by omega)
                      have rm12 := r12.room
                      have rq12 := r12.most
                      have HN12 : Hid (¬ S11 cb) := Lib.hid fun hS => by
                        have := HS11.out.lt _ hS
                        have := (n12 _ rfl).1
                        simp only at this
                        omega
                      clear b12 r12 n12 HS11 HP11 y1
                      go_wp2_with fail
                      have hmk := jC_make 1000000 (allB 0 all) (allB 0 rt) (allB 0 all ++ allB 0 rt)
                      refine (create_s HS12.out nC (by decide) (k := 0) (by rw [hmk.1]; rfl) hmk.2).mono ?_
                      rintro e w13 ⟨rfl, S13, h13, m13⟩
                      have HS13 := Lib.hid h13
                      have HP13 := Lib.hid (HP12.out.moved m13)
                      have HR13 := Lib.hid (HR12.out.moved m13 (fun a ha => by obtain rfl := Option.some.inj ha; exact HN12.out))
                      clear h13 m13 HS12 HP12 HR12 hmk HN12
                      go_wp2_with fail
                      have hap := jC_append 1000000 (allB 0 all) (allB 0 rt) (allB 0 all ++ allB 0 rt) ((allB 0 rt).drop 128) (by rw [HLAB.out, List.length_drop]; omega) (by rw [List.length_drop]; omega)
                      rw [List.length_drop] at hap
                      refine (append_s HS13.out nC (by decide) (some ⟨cb, co + 128, none⟩) ((allB 0 rt).length - 128) (q12 - 128) ((allB 0 rt).drop 128) (HR13.out.from 128 (by omega) (by omega)) (k := 0) (by rw [hap.1]; rfl) hap.2).mono ?_
                      rintro e w14 ⟨rfl, S14, h14, m14⟩
                      have HS14 := Lib.hid h14
                      have HP14 := Lib.hid (HP13.out.moved m14)
                      clear h14 m14 HS13 HP13 HR13 hap
                      go_wp2_with fail
                      refine (tells_x HS14.out.x nC (by decide) (jC_all _ _ _ _ _).2.2.2 (rs := []) (by rw [(jC_all _ _ _ _ _).2.1]; exact HHL.out) none 0 0 ⟨rfl, by omega, by omega, fun _ => rfl, fun a ha => by simp at ha⟩).mono ?_
                      rintro e w15 ⟨rfl, b15⟩
                      have HS15 := Lib.hid (HS14.out.kept b15)
                      have HP15 := Lib.hid (HP14.out.kept b15)
                      clear b15 HS14 HP14
                      obtain ⟨N, hN⟩ : ∃ N, all.length + rt.length = N := ⟨_, rfl⟩
                      go_wp2_with (at_builtin; refine wpList_puts rfl _ _ rfl (.slice vo2 (rs.length + 1) vc2) vs2 all _ rt.length cap2 rt rfl rfl (B := w.heap.size) HS15.out.below.size HS15.out.lt HP15.out (apart_old HS15.out (fun g hg => (HP15.out.own.lt g hg).1) HTB.out.row) N hN (by omega) ?_)
                      intro vo9 vc9 vs9 w20 k20 p20 b20 _
                      have HS20 := Lib.hid (HS15.out.same k20 (HS15.out.below.trans b20))
                      obtain ⟨ao', cap', he, hrow⟩ := p20.row
                      have HROW := Lib.hid hrow
                      obtain ⟨rfl, hN2, rfl⟩ := Value.slice.inj he
                      clear he hrow p20 k20 b20 HS15 HP15 hN2
                      go_wp2_with fail
                      refine (tells_x HS20.out.x nB (by decide) (jC_all _ _ _ _ _).2.2.1 (rs := all ++ rt) (by rw [(jC_all _ _ _ _ _).1, ← join_all all rt HEND.out]; exact (read_all (all ++ rt)).1) _ N _ (by have h := HROW.out; rwa [List.length_append, hN] at h)).mono ?_
                      rintro e w21 ⟨rfl, b21⟩
                      have HE := Lib.hid (HS20.out.kept b21).below
                      clear b21
                      go_wp2
                      go_ret
                      exact ⟨rfl, HE.out⟩
                    · clear hrt
                      obtain ⟨N, hN⟩ : ∃ N, all.length + rt.length = N := ⟨_, rfl⟩
                      go_wp2_with (at_builtin; refine wpList_puts rfl _ _ rfl (.slice vo2 (rs.length + 1) vc2) vs2 all _ rt.length cap2 rt rfl rfl (B := w.heap.size) HS11.out.below.size HS11.out.lt HP11.out (apart_old HS11.out (fun g hg => (HP11.out.own.lt g hg).1) HTB.out.row) N hN (by omega) ?_)
                      intro vo9 vc9 vs9 w20 k20 p20 b20 _
                      have HS20 := Lib.hid (HS11.out.same k20 (HS11.out.below.trans b20))
                      obtain ⟨ao', cap', he, hrow⟩ := p20.row
                      have HROW := Lib.hid hrow
                      obtain ⟨rfl, hN2, rfl⟩ := Value.slice.inj he
                      clear he hrow p20 k20 b20 HS11 HP11 hN2
                      go_wp2_with fail
                      refine (tells_x HS20.out.x nB (by decide) (jB_all _ _ _ _).2.2 (rs := all ++ rt) (by rw [(jB_all _ _ _ _).1, ← join_all all rt HEND.out]; exact (read_all (all ++ rt)).1) _ N _ (by have h := HROW.out; rwa [List.length_append, hN] at h)).mono ?_
                      rintro e w21 ⟨rfl, b21⟩
                      have HE := Lib.hid (HS20.out.kept b21).below
                      clear b21
                      go_wp2
                      go_ret
                      exact ⟨rfl, HE.out⟩
                  · skip
                    obtain ⟨N, hN⟩ : ∃ N, all.length + rt.length = N := ⟨_, rfl⟩
                    go_wp2_with (at_builtin; refine wpList_puts rfl _ _ rfl (.slice vo2 (rs.length + 1) vc2) vs2 all _ rt.length cap2 rt rfl rfl (B := w.heap.size) HS11.out.below.size HS11.out.lt HP11.out (apart_old HS11.out (fun g hg => (HP11.out.own.lt g hg).1) HTB.out.row) N hN (by omega) ?_)
                    intro vo9 vc9 vs9 w20 k20 p20 b20 _
                    have HS20 := Lib.hid (HS11.out.same k20 (HS11.out.below.trans b20))
                    obtain ⟨ao', cap', he, hrow⟩ := p20.row
                    have HROW := Lib.hid hrow
                    obtain ⟨rfl, hN2, rfl⟩ := Value.slice.inj he
                    clear he hrow p20 k20 b20 HS11 HP11 hN2
                    go_wp2_with fail
                    refine (tells_x HS20.out.x nB (by decide) (jB_all _ _ _ _).2.2 (rs := all ++ rt) (by rw [(jB_all _ _ _ _).1, ← join_all all rt HEND.out]; exact (read_all (all ++ rt)).1) _ N _ (by have h := HROW.out; rwa [List.length_append, hN] at h)).mono ?_
                    rintro e w21 ⟨rfl, b21⟩
                    have HE := Lib.hid (HS20.out.kept b21).below
                    clear b21
                    go_wp2
                    go_ret
                    exact ⟨rfl, HE.out⟩
            · skip
              obtain rfl : fl = List.replicate 121 0 := by rw [hfo]; rw [if_neg (by omega)]
              clear hfo
              skip
              have HZ := Lib.hid (row_zeros w5 121 w5.heap.size (0, 0) rfl (by omega))
              have HB2 : Hid (Below w5.heap.size w5 (w5.alloc (.cells (zeros8 121) 5))) := Lib.hid (below_alloc w5 _)
              have HB3 : Hid (Below w5.heap.size w5 ((w5.alloc (.cells (zeros8 121) 5)).alloc (.cells #[.slice (some ⟨w5.heap.size, 0, none⟩) 121 121] 22))) := Lib.hid (below_step_a HB2.out _)
              have HAP := Lib.hid (apart_fill (W := (w5.alloc (.cells (zeros8 121) 5))) (S := S) (w5.heap.size + 1) 121 (.slice vo rs.length vc) (List.replicate 121 0) (by simp) w5.heap.size HZ.out List.length_replicate (fun hS => by have := HS.out.lt _ hS; omega) (fun e => by have := (HP.out.own.lt _ e).2; omega))
              go_wp2_with (at_builtin; refine wpList_puts rfl _ _ rfl (.slice vo rs.length vc) vs rs (some ⟨(w5.heap.size + 1), 0, none⟩) 1 1 [List.replicate 121 0] rfl rfl (B := w.heap.size) (HS.out.kept HB3.out).below.size (HS.out.kept HB3.out).lt (HP.out.kept HB3.out) HAP.out (rs.length + 1) rfl (by omega) ?_)
              intro vo2 vc2 vs2 w6 k6 p6 b6 g6
              have HS6 := Lib.hid ((HS.out.kept HB3.out).same k6 ((HS.out.kept HB3.out).below.trans b6))
              have HP6 := Lib.hid p6
              have HF6 := Lib.hid ((HZ.out.alloc (.cells #[.slice (some ⟨w5.heap.size, 0, none⟩) 121 121] 22)).grown g6 (fun a ha _ e => by obtain rfl := Option.some.inj ha; have := (HP.out.own.lt _ e).2; simp only at this; omega))
              clear k6 p6 b6 g6 HS HP HZ HB2 HB3 HAP m121
              go_wp2_with fail
              refine (add_s HS6.out (by decide) (some ⟨w5.heap.size, 0, none⟩) 121 121 (List.replicate 121 0) HF6.out (k := 0) (by rw [hadd.out.1]; rfl) hadd.out.2.1 hadd.out.2.2).mono ?_
              rintro e w7a ⟨rfl, S, h7a, m7a⟩
              obtain ⟨all, hall⟩ : ∃ all, all = rs ++ [List.replicate 121 0] := ⟨_, rfl⟩
              have HEND : Hid ((allB 0 all).length % 128 = 0) := Lib.hid (by rw [hall]; exact hend.out)
              have hal : (allB 0 all).length ≤ 60000 := by rw [hall]; exact hfit
              have HLN : Hid (all.length = rs.length + 1 ∧ rs.length ≤ 41) := Lib.hid ⟨by rw [hall, List.length_append]; rfl, by omega⟩
              have HS : Hid (HasS w w7a d (jA 1000000 (allB 0 all) []) [(j, jObj d nJ (allB 0 all).length), (q, jObj d nQ 0)] S) := Lib.hid (by rw [hall]; exact h7a)
              have HP : Hid (PutW w7a w.heap.size S (.slice vo2 (rs.length + 1) vc2) vs2 all) := Lib.hid (by rw [hall]; exact HP6.out.moved m7a)
              clear hall h7a m7a HS6 HP6 HF6 hadd hend hfit
              go_wp2_with fail
              try simp only [hmod']
              clear hmod'
              go_loopw [14] (fun iv wr => ∃ (i : Nat), i ≤ rt.length ∧ iv = .int .i64 i ∧ Hid (JoinRel w d j q all rt (.slice vo2 (rs.length + 1) vc2) vs2 i wr)) (fun iv _ => rt.length - (RowKit.intOf iv).toNat)
              case atStart => exact ⟨0, by omega, rfl, Lib.hid ⟨S, HS.out.perm (List.Perm.swap _ _ _), HP.out⟩⟩
              case round =>
                clear HS HP
                obtain ⟨i, hi, rfl, HREL⟩ := hrel
                obtain ⟨S, hs, hp⟩ := HREL.out
                have HS := Lib.hid hs
                have HP := Lib.hid hp
                clear hs hp HREL
                by_cases hlt : i < rt.length
                · obtain ⟨b, off, x, aj, cj, rfl, hx, hcell, hxr⟩ := HTB.out.row.one i hlt
                  have hx4 := HEAT.out x (List.mem_of_getElem? hx)
                  have HXR := Lib.hid hxr
                  have HNX := Lib.hid (take_next hx)
                  have hfit := few_room HBIG2.out (i + 1)
                  rw [HNX.out] at hfit
                  have y1 := hcell wr HS.out.below
                  clear hcell hxr hx
                  generalize rt.take i = done at *
                  have hadd := Lib.hid (jA_addQ 1000000 (allB 0 all) done x (by omega) (by omega) (by omega))
                  go_wp2_with fail
                  refine (add_s HS.out (by decide) aj x.length cj x (HXR.out.kept HS.out.below) (k := 0) (by rw [hadd.out.1]; rfl) hadd.out.2.1 hadd.out.2.2).mono ?_
                  rintro e wa ⟨rfl, SA, hsa, ma⟩
                  have HA := Lib.hid hsa
                  have HPA := Lib.hid (HP.out.moved ma)
                  clear hsa ma HS HP hadd y1
                  go_wp2
                  go_roundw
                  case rel => exact ⟨i + 1, by omega, by go_num, Lib.hid ⟨SA, by rw [HNX.out]; exact HA.out, HPA.out⟩⟩
                  case measure => simp [RowKit.intOf]; omega
                · obtain rfl : i = rt.length := by omega
                  rw [List.take_length] at HS
                  go_wp2_with fail
                  refine (bytes_own HS.out.x nJ (by decide) (jA_all _ _ _).1).mono ?_
                  rintro e w6 ⟨a6, q6, rfl, r6, b6, o6⟩
                  have HO6 := Lib.hid o6
                  have HY6 := Lib.hid r6.byte
                  have B6 := Lib.hid b6
                  clear b6 o6 r6
                  go_wp2_with fail
                  refine (bytes_x (HS.out.kept B6.out).x nQ (by decide) (jA_all _ _ _).2).mono ?_
                  rintro e w7 ⟨a7, q7, rfl, r7, b7, _⟩
                  have HR7 := Lib.hid r7
                  have HO7 := Lib.hid (ownsRow_same HO6.out fun k hk => b7.block k (HO6.out.lt k hk).2)
                  have B7 := Lib.hid (below_next B6.out b7)
                  clear b7 r7 HO6 B6
                  go_wp2_with (at_builtin; refine wpList_append_bytes rfl _ _ rfl _ _ (allB 0 all) rfl (ownsRow_base HO7.out fun _ _ => Nat.zero_le _) a7 (allB 0 rt).length q7 (allB 0 rt) rfl HR7.out (by omega) ?_)
                  intro v8 w8 o8 g8 n8
                  have hlab : (allB 0 all ++ allB 0 rt).length = (allB 0 all).length + (allB 0 rt).length := List.length_append
                  have hb8 : Below wr.heap.size wr w8 := B7.out.grown g8 B7.out.size (fun k hk => (HO7.out.lt k hk).1)
                  have ho8 := ownsRow_base (base' := wr.heap.size) o8 (fun k hk => by
                    rcases n8 with e | ⟨b, e, hb⟩
                    · exact (HO7.out.lt k (e.symm.trans hk)).1
                    · have e3 := e.symm.trans hk
                      obtain rfl := Option.some.inj e3
                      exact Nat.le_trans B7.out.size hb)
                  obtain ⟨b8o, b8c, he8, hr8, ha8⟩ := Row8.of_owns (l := allB 0 all ++ allB 0 rt) (by rw [hlab]; exact ho8) (fun x hx => by
                    rcases List.mem_append.1 hx with h | h
                    · exact HY6.out x h
                    · exact HR7.out.byte x h)
                  rw [hlab] at he8 hr8
                  subst he8
                  have HR8 := Lib.hid hr8
                  have HLAB := Lib.hid hlab
                  have HN8 : Hid (∀ a, b8o = some a → ¬ S a.block) := Lib.hid fun a ha hS => by
                    have := (ha8 a ha).1
                    have := HS.out.lt _ hS
                    omega
                  have HS8 := Lib.hid (HS.out.kept hb8)
                  have HP8 := Lib.hid (HP.out.kept hb8)
                  have hm : ((allB 0 all).length : Int) % 128 = 0 := by have := HEND.out; omega
                  clear hlab hr8 ha8 ho8 o8 g8 n8 hb8 HS HP HO7 B7 HR7
                  go_wp2_with fail
                  refine (bytes_x HS8.out.x nJ (by decide) (jA_all _ _ _).1).mono ?_
                  rintro e w9 ⟨a9, q9, rfl, _, b9, _⟩
                  have HS9 := Lib.hid (HS8.out.kept b9)
                  have HP9 := Lib.hid (HP8.out.kept b9)
                  have HR9 := Lib.hid (HR8.out.kept b9)
                  clear b9 HS8 HP8 HR8
                  go_wp2_with fail
                  have hmk := jB_make 1000000 (allB 0 all) (allB 0 rt)
                  refine (create_s HS9.out nB (by decide) (k := 0) (by rw [hmk.1]; rfl) hmk.2).mono ?_
                  rintro e w10 ⟨rfl, S10, h10, m10⟩
                  have HS10 := Lib.hid h10
                  have HP10 := Lib.hid (HP9.out.moved m10)
                  have HR10 := Lib.hid (HR9.out.moved m10 HN8.out)
                  clear h10 m10 HS9 HP9 HR9 hmk HN8
                  go_wp2_with fail
                  have hap := jB_append 1000000 (allB 0 all) (allB 0 rt) (allB 0 all ++ allB 0 rt) (by rw [HLAB.out]; omega) (by rw [HLAB.out]; omega)
                  rw [HLAB.out] at hap
                  refine (append_s HS10.out nB (by decide) b8o ((allB 0 all).length + (allB 0 rt).length) b8c (allB 0 all ++ allB 0 rt) HR10.out (k := 0) (by rw [hap.1]; rfl) hap.2).mono ?_
                  rintro e w11 ⟨rfl, S11, h11, m11⟩
                  have HS11 := Lib.hid h11
                  have HP11 := Lib.hid (HP10.out.moved m11)
                  clear h11 m11 HS10 HP10 HR10 hap hm
                  have hLN := HLN.out
                  by_cases h0 : 0 < rt.length
                  · obtain ⟨b, off, x, aj, cj, rfl, hx, hcell, hxr⟩ := HTB.out.row.one 0 h0
                    have HXC := Lib.hid hcell
                    obtain ⟨rt', hrt⟩ : ∃ t, rt = x :: t := by
                      cases rt with
                      | nil => simp at h0
                      | cons a t => simp at hx; subst hx; exact ⟨t, rfl⟩
                    have y1 := hcell w11 HS11.out.below
                    rw [Nat.add_zero] at y1
                    have hxm := hxr.room
                    clear hcell hxr hx
                    by_cases h121 : 121 < x.length
                    · have hhl := read_headless x rt' h121
                      rw [← hrt] at hhl
                      have HHL := Lib.hid hhl.1
                      have hh128 := hhl.2
                      clear hhl hrt
                      go_wp2_with fail
                      refine (bytes_x HS11.out.x nQ (by decide) (jB_all _ _ _ _).2.1).mono ?_
                      rintro e w12 ⟨a12, q12, rfl, r12, b12, n12⟩
                      have HS12 := Lib.hid (HS11.out.kept b12)
                      have HP12 := Lib.hid (HP11.out.kept b12)
                      have HR12 := Lib.hid r12
                      obtain ⟨cb, co, rfl, _⟩ := r12.lies (by omega)
                      have rm12 := r12.room
                      have rq12 := r12.most
                      have HN12 : Hid (¬ S11 cb) := Lib.hid fun hS => by
                        have := HS11.out.lt _ hS
                        have := (n12 _ rfl).1
                        simp only at this
                        omega
                      clear b12 r12 n12 HS11 HP11 y1
                      go_wp2_with fail
                      have hmk := jC_make 1000000 (allB 0 all) (allB 0 rt) (allB 0 all ++ allB 0 rt)
                      refine (create_s HS12.out nC (by decide) (k := 0) (by rw [hmk.1]; rfl) hmk.2).mono ?_
                      rintro e w13 ⟨rfl, S13, h13, m13⟩
                      have HS13 := Lib.hid h13
                      have HP13 := Lib.hid (HP12.out.moved m13)
                      have HR13 := Lib.hid (HR12.out.moved m13 (fun a ha => by obtain rfl := Option.some.inj ha; exact HN12.out))
                      clear h13 m13 HS12 HP12 HR12 hmk HN12
                      go_wp2_with fail
                      have hap := jC_append 1000000 (allB 0 all) (allB 0 rt) (allB 0 all ++ allB 0 rt) ((allB 0 rt).drop 128) (by rw [HLAB.out, List.length_drop]; omega) (by rw [List.length_drop]; omega)
                      rw [List.length_drop] at hap
                      refine (append_s HS13.out nC (by decide) (some ⟨cb, co + 128, none⟩) ((allB 0 rt).length - 128) (q12 - 128) ((allB 0 rt).drop 128) (HR13.out.from 128 (by omega) (by omega)) (k := 0) (by rw [hap.1]; rfl) hap.2).mono ?_
                      rintro e w14 ⟨rfl, S14, h14, m14⟩
                      have HS14 := Lib.hid h14
                      have HP14 := Lib.hid (HP13.out.moved m14)
                      clear h14 m14 HS13 HP13 HR13 hap
                      go_wp2_with fail
                      refine (tells_x HS14.out.x nC (by decide) (jC_all _ _ _ _ _).2.2.2 (rs := []) (by rw [(jC_all _ _ _ _ _).2.1]; exact HHL.out) none 0 0 ⟨rfl, by omega, by omega, fun _ => rfl, fun a ha => by simp at ha⟩).mono ?_
                      rintro e w15 ⟨rfl, b15⟩
                      have HS15 := Lib.hid (HS14.out.kept b15)
                      have HP15 := Lib.hid (HP14.out.kept b15)
                      clear b15 HS14 HP14
                      obtain ⟨N, hN⟩ : ∃ N, all.length + rt.length = N := ⟨_, rfl⟩
                      go_wp2_with (at_builtin; refine wpList_puts rfl _ _ rfl (.slice vo2 (rs.length + 1) vc2) vs2 all _ rt.length cap2 rt rfl rfl (B := w.heap.size) HS15.out.below.size HS15.out.lt HP15.out (apart_old HS15.out (fun g hg => (HP15.out.own.lt g hg).1) HTB.out.row) N hN (by omega) ?_)
                      intro vo9 vc9 vs9 w20 k20 p20 b20 _
                      have HS20 := Lib.hid (HS15.out.same k20 (HS15.out.below.trans b20))
                      obtain ⟨ao', cap', he, hrow⟩ := p20.row
                      have HROW := Lib.hid hrow
                      obtain ⟨rfl, hN2, rfl⟩ := Value.slice.inj he
                      clear he hrow p20 k20 b20 HS15 HP15 hN2
                      go_wp2_with fail
                      refine (tells_x HS20.out.x nB (by decide) (jC_all _ _ _ _ _).2.2.1 (rs := all ++ rt) (by rw [(jC_all _ _ _ _ _).1, ← join_all all rt HEND.out]; exact (read_all (all ++ rt)).1) _ N _ (by have h := HROW.out; rwa [List.length_append, hN] at h)).mono ?_
                      rintro e w21 ⟨rfl, b21⟩
                      have HE := Lib.hid (HS20.out.kept b21).below
                      clear b21
                      go_wp2
                      go_ret
                      exact ⟨rfl, HE.out⟩
                    · clear hrt
                      obtain ⟨N, hN⟩ : ∃ N, all.length + rt.length = N := ⟨_, rfl⟩
                      go_wp2_with (at_builtin; refine wpList_puts rfl _ _ rfl (.slice vo2 (rs.length + 1) vc2) vs2 all _ rt.length cap2 rt rfl rfl (B := w.heap.size) HS11.out.below.size HS11.out.lt HP11.out (apart_old HS11.out (fun g hg => (HP11.out.own.lt g hg).1) HTB.out.row) N hN (by omega) ?_)
                      intro vo9 vc9 vs9 w20 k20 p20 b20 _
                      have HS20 := Lib.hid (HS11.out.same k20 (HS11.out.below.trans b20))
                      obtain ⟨ao', cap', he, hrow⟩ := p20.row
                      have HROW := Lib.hid hrow
                      obtain ⟨rfl, hN2, rfl⟩ := Value.slice.inj he
                      clear he hrow p20 k20 b20 HS11 HP11 hN2
                      go_wp2_with fail
                      refine (tells_x HS20.out.x nB (by decide) (jB_all _ _ _ _).2.2 (rs := all ++ rt) (by rw [(jB_all _ _ _ _).1, ← join_all all rt HEND.out]; exact (read_all (all ++ rt)).1) _ N _ (by have h := HROW.out; rwa [List.length_append, hN] at h)).mono ?_
                      rintro e w21 ⟨rfl, b21⟩
                      have HE := Lib.hid (HS20.out.kept b21).below
                      clear b21
                      go_wp2
                      go_ret
                      exact ⟨rfl, HE.out⟩
                  · skip
                    obtain ⟨N, hN⟩ : ∃ N, all.length + rt.length = N := ⟨_, rfl⟩
                    go_wp2_with (at_builtin; refine wpList_puts rfl _ _ rfl (.slice vo2 (rs.length + 1) vc2) vs2 all _ rt.length cap2 rt rfl rfl (B := w.heap.size) HS11.out.below.size HS11.out.lt HP11.out (apart_old HS11.out (fun g hg => (HP11.out.own.lt g hg).1) HTB.out.row) N hN (by omega) ?_)
                    intro vo9 vc9 vs9 w20 k20 p20 b20 _
                    have HS20 := Lib.hid (HS11.out.same k20 (HS11.out.below.trans b20))
                    obtain ⟨ao', cap', he, hrow⟩ := p20.row
                    have HROW := Lib.hid hrow
                    obtain ⟨rfl, hN2, rfl⟩ := Value.slice.inj he
                    clear he hrow p20 k20 b20 HS11 HP11 hN2
                    go_wp2_with fail
                    refine (tells_x HS20.out.x nB (by decide) (jB_all _ _ _ _).2.2 (rs := all ++ rt) (by rw [(jB_all _ _ _ _).1, ← join_all all rt HEND.out]; exact (read_all (all ++ rt)).1) _ N _ (by have h := HROW.out; rwa [List.length_append, hN] at h)).mono ?_
                    rintro e w21 ⟨rfl, b21⟩
                    have HE := Lib.hid (HS20.out.kept b21).below
                    clear b21
                    go_wp2
                    go_ret
                    exact ⟨rfl, HE.out⟩
end Go.Proofs.Ytkmanpmaflpgoaa
