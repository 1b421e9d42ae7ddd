/-
  WHAT IS PROVED: the walk of JournalsRefuse.
-/
import Derived.Test.YtkmanpmaflpgoaaJFoot
namespace Go.Proofs.Ytkmanpmaflpgoaa
open Go.RowKit Go.Lib

theorem bytesOf_mem {rs : List (List Nat)} {r : List Nat} (h : r ∈ rs) : r.length ≤ bytesOf rs := by
  unfold bytesOf
  induction rs with
  | nil => simp at h
  | cons a t ih =>
    simp only [List.map_cons, List.sum_cons]
    rcases List.mem_cons.1 h with rfl | h
    · omega
    · have := ih h; omega
theorem few_each {rs : List (List Nat)} (h : ¬ bigR rs) : rs.length ≤ 40 ∧ ∀ r ∈ rs, r.length ≤ 40000 := by
  unfold bigR at h
  exact ⟨by omega, fun r hr => by have := bytesOf_mem hr; omega⟩

/-- there is too little room -/
theorem jM_full (n : Nat) (l : List (List Nat)) (s : Nat) (r : List Nat) (hr : r.length ≤ 65536) (hn : n ≤ 1048576) (h : n < (allB 0 (l ++ [r])).length) :
    (jM n (allB 0 l) s).addE nJ (allB 0 l).length r = 6 ∧ (jM n (allB 0 l) s).addM nJ (allB 0 l).length r = jM n (allB 0 l) s ∧ (jM n (allB 0 l) s).addS nJ (allB 0 l).length r = (allB 0 l).length := by
  rw [allB_snoc, Nat.zero_add, List.length_append] at h
  have hw := (writtenB_len r (allB 0 l).length).2
  have hE : (jM n (allB 0 l) s).addE nJ (allB 0 l).length r = 6 := by
    unfold DiskM.addE
    rw [if_neg (by omega), if_neg (by rw [jM_miss]; simp), if_neg (by rw [jM_size]; simp)]
    unfold DiskM.appendE
    rw [if_pos (jM_miss _ _ _), jM_left, if_pos (.inl (by omega))]
  refine ⟨hE, ?_, ?_⟩
  · unfold DiskM.addM; rw [hE]; rfl
  · unfold DiskM.addS; rw [hE]; rfl
theorem allB_more (l : List (List Nat)) (r : List Nat) : (allB 0 l).length + 7 + r.length ≤ (allB 0 (l ++ [r])).length := by
  rw [allB_snoc, List.length_append]
  have := (writtenB_len r (0 + (allB 0 l).length)).2
  omega

/-- one of the records that came in, in any world that has them still -/
theorem RowR.one {w : World} {ao : Option Addr} {n cap : Nat} {rs : List (List Nat)} (h : RowR w ao n cap rs) (k : Nat) (hk : k < n) :
    ∃ b off x aj cj, ao = some ⟨b, off, none⟩ ∧ rs[k]? = some x ∧ (∀ W, Below w.heap.size w W → W.cell? ⟨b, off + k, none⟩ = some (.slice aj x.length cj)) ∧ Row8 w aj x.length cj x := by
  have hlen := h.len
  obtain ⟨x, hx⟩ : ∃ x, rs[k]? = some x := ⟨rs[k]'(by rw [hlen]; exact hk), by simp [hlen, hk]⟩
  obtain ⟨b, off, rfl, hcell⟩ := h.lies (by omega)
  obtain ⟨aj, cj, h1, h2⟩ := hcell k x hx
  have hb : b < w.heap.size := World.block_lt_of_cell? w _ h1
  exact ⟨b, off, x, aj, cj, rfl, hx, fun W hW => (hW.cell (p := ⟨b, off + k, none⟩) hb).trans h1, h2⟩

/-- between two rounds -/
def RefRel (w : World) (d j N : Nat) (v : Value) (done : List (List Nat)) (wr : World) : Prop :=
  ∃ (vs : List Value) (S : Nat → Prop), HasS w wr d (jM N (allB 0 done) 0) [(j, jObj d nJ (allB 0 done).length)] S ∧ Put w wr S v vs done ∧ (allB 0 done).length ≤ N

set_option maxRecDepth 100000 in
set_option maxHeartbeats 8000000 in
theorem walk_JournalsRefuse (ao : Option Addr) (n cap : Nat) (rs : List (List Nat)) {w : World} (hr : RowB w ao n cap rs) (c : Int) (h0 : (Lit.int .u16 c).wf = true) :
    Calls Try.prog 6 #[.slice ao n cap, .int .u16 c] w fun e w' => e = .returned (.bool true) ∧ Below w.heap.size w w' := by
  have k0 := wf_u16 h0
  obtain ⟨N, hN, hN1⟩ : ∃ N : Nat, (1 : Int) + c % 3000 = (N : Int) ∧ 1 ≤ N ∧ N ≤ 3000 := ⟨(1 + c % 3000).toNat, by omega, by omega⟩
  have HRB := Lib.hid hr
  obtain rfl := hr.row.len
  by_cases hbig : bigR rs
  · have HBIG := Lib.hid hbig
    clear hr hbig h0
    go_enter Try.func6, Try.ntmps6
    go_wp2_with fail
    refine (opened_x w w (Below.refl _ _) N hN1.1 (by omega)).mono ?_
    rintro e w1 ⟨d, j, rfl, h1⟩
    have H1 := Lib.hid h1
    clear h1
    go_wp2_with fail
    refine (many_yes1 _ ao rs.length cap rs _ (by exact cell_one_new _ _ _ 0 _ rfl) ((HRB.out.kept H1.out.below).kept (below_alloc _ _)) HBIG.out).mono ?_
    rintro e w2 ⟨rfl, b2⟩
    have H2 := Lib.hid ((H1.out.alloc _).kept b2)
    clear b2
    go_wp2_with fail
    refine (alive_yes w2).mono ?_
    rintro e w3 ⟨rfl, b3⟩
    have H3 := Lib.hid (H2.out.kept b3)
    clear b3
    go_wp2
    go_ret
    exact ⟨rfl, H3.out.below⟩
  · obtain ⟨h40, hea⟩ := few_each hbig
    have HEA := Lib.hid hea
    have HBIG := Lib.hid hbig
    clear hr hbig h0 hea
    go_enter Try.func6, Try.ntmps6
    go_wp2_with fail
    refine (opened_x w w (Below.refl _ _) N hN1.1 (by omega)).mono ?_
    rintro e w1 ⟨d, j, rfl, h1⟩
    have H1 := Lib.hid h1
    clear h1
    go_wp2_with fail
    refine (many_no1 _ ao rs.length cap rs _ (by exact cell_one_new _ _ _ 0 _ rfl) ((HRB.out.kept H1.out.below).kept (below_alloc _ _)) HBIG.out).mono ?_
    rintro e w2 ⟨rfl, b2⟩
    obtain ⟨S0, hs0⟩ := ((H1.out.alloc _).kept b2).s
    have HS0 := Lib.hid hs0
    clear b2 hs0 H1
    go_wp2_with fail
    go_loopw [7, 8] (fun v i wr => ∃ (k : Nat) (done : List (List Nat)) (vo : Option Addr) (vc : Nat), k ≤ rs.length ∧ i = .int .i64 k ∧ v = .slice vo done.length vc ∧ done.length ≤ k ∧ Hid (RefRel w d j N (.slice vo done.length vc) done wr)) (fun _ i _ => rs.length - (RowKit.intOf i).toNat)
    case atStart => exact ⟨0, [], none, 0, by omega, rfl, rfl, by simp, Lib.hid ⟨[], _, HS0.out, put_nil _ _ _, by simp [allB]⟩⟩
    case round =>
      obtain ⟨k, done, vo, vc, hk, rfl, rfl, hdk, HREL⟩ := hrel
      obtain ⟨vs, S, hs, hp, hfit⟩ := HREL.out
      have HS := Lib.hid hs
      have HP := Lib.hid hp
      clear HREL hs hp
      by_cases hlt : k < rs.length
      · obtain ⟨b, off, x, aj, cj, rfl, hx, hcell, hxr⟩ := HRB.out.row.one k hlt
        have hx4 := HEA.out x (List.mem_of_getElem? hx)
        have HC := Lib.hid hcell
        have HXR := Lib.hid hxr
        clear hcell hxr hx
        have c1 := HC.out wr HS.out.below
        go_wp2_with fail
        refine (bytes_x HS.out.x nJ (by decide) (jM_all N (allB 0 done) 0)).mono ?_
        rintro e w1 ⟨a1, q1, rfl, r1, b1, n1⟩
        have HS1 := Lib.hid (HS.out.kept b1)
        have HP1 := Lib.hid (HP.out.kept b1)
        have HR1 := Lib.hid r1
        have HN1 : Hid (∀ a, a1 = some a → ¬ S a.block) := Lib.hid fun a ha hS => by
          have := HS.out.lt _ hS
          have := (n1 a ha).1
          omega
        have c2 := HC.out w1 HS1.out.below
        clear r1 b1 n1 HS HP c1
        have hmore := allB_more done x
        by_cases hroom : (allB 0 (done ++ [x])).length ≤ N
        · have hadd := Lib.hid (jM_add N done 0 x (by omega) hroom (by omega))
          go_wp2_with fail
          refine (add_s HS1.out (by decide) aj x.length cj x (HXR.out.kept HS1.out.below) (k := 0) (by rw [hadd.out.1]; rfl) hadd.out.2.1 hadd.out.2.2).mono ?_
          rintro e w2 ⟨rfl, S2, hs2, hm2⟩
          have HS2 := Lib.hid hs2
          have HP2 := Lib.hid (HP1.out.moved hm2)
          have HR2 := Lib.hid (HR1.out.moved hm2 HN1.out)
          clear hs2 hm2 HS1 HP1 HR1 HN1 c2
          go_wp2_with fail
          refine (bytes_x HS2.out.x nJ (by decide) (jM_all N (allB 0 (done ++ [x])) 0)).mono ?_
          rintro e w3 ⟨a3, q3, rfl, r3, b3, _⟩
          have HS3 := Lib.hid (HS2.out.kept b3)
          have HP3 := Lib.hid (HP2.out.kept b3)
          have HR3 := Lib.hid (HR2.out.kept b3)
          have HR4 := Lib.hid r3
          have rm3 := r3.room
          have rq3 := r3.most
          clear b3 r3 HS2 HP2 HR2
          generalize hL : (allB 0 done).length = L at *
          generalize hL2 : (allB 0 (done ++ [x])).length = L2 at *
          go_wp2_with fail
          refine (sameBytes_same a3 a1 L q3 q1 (allB 0 done) w3 (by have := HR4.out.upto L (by omega); rwa [show (allB 0 (done ++ [x])).take L = allB 0 done by rw [allB_snoc, List.take_left' hL]] at this) HR3.out).mono ?_
          rintro e w4 ⟨rfl, b4⟩
          have HS4 := Lib.hid (HS3.out.kept b4)
          have HP4 := Lib.hid (HP3.out.kept b4)
          have c4 := HC.out w4 HS4.out.below
          clear b4 HS3 HP3 HR3 HR4
          go_wp2_with (at_builtin; refine wpList_put rfl _ _ rfl _ vs done aj cj x rfl w4 rfl rfl HS4.out.below HS4.out.lt HP4.out HXR.out (by omega) ?_)
          intro vo2 vc2 w5 k5 p5 b5
          have HS5 := Lib.hid (HS4.out.same k5 b5)
          have HP5 := Lib.hid p5
          have c5 := HC.out w5 b5
          clear k5 p5 b5 HS4 HP4 c4
          go_wp2
          go_roundw
          case rel => exact ⟨k + 1, done ++ [x], vo2, vc2, by omega, by go_num, by rw [List.length_append]; rfl, by rw [List.length_append]; simp; omega, Lib.hid ⟨_, S2, by rw [hL2]; exact HS5.out, by rw [List.length_append]; exact HP5.out, by rw [hL2]; exact hroom⟩⟩
          case measure => simp [RowKit.intOf]; omega
        · have hadd := Lib.hid (jM_full N done 0 x (by omega) (by omega) (by omega))
          go_wp2_with fail
          refine (add_s HS1.out (by decide) aj x.length cj x (HXR.out.kept HS1.out.below) (k := 6) (by rw [hadd.out.1]; rfl) hadd.out.2.1 hadd.out.2.2).mono ?_
          rintro e w2 ⟨rfl, S2, hs2, hm2⟩
          have HS2 := Lib.hid hs2
          have HP2 := Lib.hid (HP1.out.moved hm2)
          have HR2 := Lib.hid (HR1.out.moved hm2 HN1.out)
          clear hs2 hm2 HS1 HP1 HR1 HN1 c2
          go_wp2_with fail
          refine (bytes_x HS2.out.x nJ (by decide) (jM_all N (allB 0 done) 0)).mono ?_
          rintro e w3 ⟨a3, q3, rfl, r3, b3, _⟩
          have HS3 := Lib.hid (HS2.out.kept b3)
          have HP3 := Lib.hid (HP2.out.kept b3)
          have HR3 := Lib.hid (HR2.out.kept b3)
          have HR4 := Lib.hid r3
          have rm3 := r3.room
          have rq3 := r3.most
          clear b3 r3 HS2 HP2 HR2 hadd hroom hmore
          generalize hL : (allB 0 done).length = L at *
          go_wp2_with fail
          refine (sameBytes_same a3 a1 L q3 q1 (allB 0 done) w3 HR4.out HR3.out).mono ?_
          rintro e w4 ⟨rfl, b4⟩
          have HS4 := Lib.hid (HS3.out.kept b4)
          have HP4 := Lib.hid (HP3.out.kept b4)
          have c4 := HC.out w4 HS4.out.below
          clear b4 HS3 HP3 HR3 HR4
          go_wp2
          go_roundw
          case rel => exact ⟨k + 1, done, vo, vc, by omega, by go_num, rfl, by omega, Lib.hid ⟨vs, S2, by rw [hL]; exact HS4.out, HP4.out, by rw [hL]; exact hfit⟩⟩
          case measure => simp [RowKit.intOf]; omega
      · obtain ⟨ao', cap', he, hrow⟩ := HP.out.row HS.out.below
        obtain ⟨rfl, -, rfl⟩ := Value.slice.inj he
        have HROW := Lib.hid hrow
        clear he hrow HP
        go_wp2_with fail
        refine (tells_x HS.out.x nJ (by decide) (jM_miss _ _ _) (rs := done) (by rw [jM_all]; exact (read_all done).1) _ _ _ HROW.out).mono ?_
        rintro e w1 ⟨rfl, b1⟩
        have HB := Lib.hid (HS.out.kept b1).below
        clear b1
        go_wp2
        go_ret
        exact ⟨rfl, HB.out⟩
end Go.Proofs.Ytkmanpmaflpgoaa
