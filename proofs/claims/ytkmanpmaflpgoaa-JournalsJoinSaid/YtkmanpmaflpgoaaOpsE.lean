/-
  WHAT IS PROVED: contracts of a disk's calls: Read, List.
-/
import Derived.Test.YtkmanpmaflpgoaaOpsD
namespace Go.Proofs.Ytkmanpmaflpgoaa
open Go.RowKit Go.Lib

/-- what Read hands back -/
def ReadOf (er : Nat) (l : List Nat) (w : World) (e : Ending) (w' : World) : Prop :=
  ∃ v, e = .returned (.tuple #[v, .int .i64 (er : Int)]) ∧ w'.ownsRow w.heap.size 5 1 v l.length (cells8 l) ∧ Below w.heap.size w w'

theorem readOf_err {M : DiskM} {nm : ByteArray} {a n : Int} {er : Nat} {w w' : World} {e : Ending} (h : M.readE nm a n = er) (h0 : er ≠ 0) (he : e = .returned (.tuple #[.slice none 0 0, .int .i64 (er : Int)])) (hb : Below w.heap.size w w') : ReadOf (M.readE nm a n) (M.readB nm a n) w e w' := by
  have : M.readB nm a n = [] := by unfold DiskM.readB; rw [h, if_neg h0]
  rw [h, this]
  exact ⟨_, he, World.ownsRow_nil _ _ _ _, hb⟩

/-- a piece of bytes: as it lies behind a cut -/
theorem cut_row {w : World} {ao : Option Addr} {len cap : Nat} {l : List Nat} (h : Row8 w ao len cap l) (hb : ∀ a, ao = some a → a.off = 0 ∧ a.spot = none) {a n : Nat} (hn : a + n ≤ len) :
    ∃ ao', (ao' = match ao with | none => none | some ad => if cap = a then some ad else some ⟨ad.block, a, none⟩) ∧ Row8 w ao' n (cap - a) ((l.drop a).take n) := by
  have h1 := h.room
  have h2 := h.most
  cases ao with
  | none =>
    have := h.nil rfl
    obtain rfl : n = 0 := by omega
    refine ⟨none, rfl, ?_⟩
    rw [List.take_zero]
    exact Row8.empty (fun _ => by omega) (by omega)
  | some ad =>
    obtain ⟨e1, e2⟩ := hb ad rfl
    by_cases hc : cap = a
    · obtain rfl : n = 0 := by omega
      refine ⟨some ad, by simp [hc], ?_⟩
      rw [List.take_zero]
      exact Row8.empty (fun h => by simp at h) (by omega)
    · refine ⟨some ⟨ad.block, a, none⟩, by simp [hc], ?_⟩
      obtain ⟨b, off, sp⟩ := ad
      simp only at e1 e2
      subst e1 e2
      have := (h.from a (by omega) (by omega)).upto n (by omega)
      rw [Nat.zero_add] at this
      exact this

set_option maxRecDepth 100000 in
set_option maxHeartbeats 4000000 in
theorem read_any (L : LayD) (M : DiskM) (nm : ByteArray) (a n : Int) (ha : a ≤ 9223372036854775807) (hn : n ≤ 9223372036854775807) (w : World) (h : DiskAt w L M) (hs : nm.size ≤ 4294967296) :
    Calls Try.prog 35 #[.pointer (some ⟨L.d, 0, none⟩), .string nm, .int .i64 a, .int .i64 n] w (ReadOf (M.readE nm a n) (M.readB nm a n) w) := by
  have H := Lib.hid h
  clear h
  have hne2 : (((M.miss nm : Nat) : Int) != 2) = true := by rcases miss_cases M nm with ⟨h, _⟩ | ⟨h, _⟩ | ⟨h, _⟩ <;> rw [h] <;> rfl
  by_cases hneg : a < 0
  · have hE : M.readE nm a n = 1 := by unfold DiskM.readE; rw [if_neg (by omega)]
    have HE := Lib.hid hE
    clear hE
    go_enter Try.func35, Try.ntmps35
    go_wp2_with fail
    refine (missing_any L M nm w H.out hs).mono ?_
    rintro e w1 ⟨rfl, hb⟩
    have HB := Lib.hid hb
    clear hb
    go_wp2
    go_ret2
    exact readOf_err HE.out (by decide) rfl HB.out
  · by_cases hneg2 : n < 0
    · have hE : M.readE nm a n = 1 := by unfold DiskM.readE; rw [if_neg (by omega)]
      have HE := Lib.hid hE
      clear hE
      go_enter Try.func35, Try.ntmps35
      go_wp2_with fail
      refine (missing_any L M nm w H.out hs).mono ?_
      rintro e w1 ⟨rfl, hb⟩
      have HB := Lib.hid hb
      clear hb
      go_wp2
      go_ret2
      exact readOf_err HE.out (by decide) rfl HB.out
    · clear hne2
      obtain ⟨a, rfl⟩ := Int.eq_ofNat_of_zero_le (Int.not_lt.1 hneg)
      obtain ⟨n, rfl⟩ := Int.eq_ofNat_of_zero_le (Int.not_lt.1 hneg2)
      clear hneg hneg2
      rcases miss_cases M nm with ⟨hm, hok, hth⟩ | ⟨hm, hok⟩ | ⟨hm, hok, hth⟩
      · have HM := Lib.hid hm
        obtain ⟨x, hx, hxn⟩ := there_get hth
        have hpl : place M.now nm < M.now.length := (List.getElem?_eq_some_iff.1 hx).1
        have hof : M.of nm = x.2 := by unfold DiskM.of; simp [List.getD, hx]
        have HX := Lib.hid hx
        have HO := Lib.hid hof
        have HK := Lib.hid hok
        have HT := Lib.hid hth
        clear hm hok hth hx hxn hof
        go_enter Try.func35, Try.ntmps35
        go_wp2_with fail
        refine (missing_0 L M nm w H.out hs HM.out).mono ?_
        rintro e w1 ⟨rfl, hb⟩
        have H1 := Lib.hid (H.out.below hb)
        have HB := Lib.hid hb
        have hc1 := H1.out.cell1
        obtain ⟨g, cp, hvn, _, _, hcell⟩ := (rowE_of H1.out.now).lies (by omega)
        rw [hvn] at hc1
        obtain ⟨hx1, hx2⟩ := hcell _ _ HX.out
        obtain ⟨v, hf1, hf2, hf3, hf4, hf5, _⟩ := H1.out.of (.inl (List.mem_of_getElem? HX.out))
        generalize L.fb.getD x.2 0 = fbi at *
        obtain ⟨ao2, cap2, rfl, hrow, hab⟩ := Row8.of_owns hf2 hf5
        have hy := cell_of_block hf1 0
        simp only [List.getElem?_toArray, List.getElem?_cons_zero] at hy
        have HRW := Lib.hid hrow
        have hr1 := hrow.room
        have hr2 := hrow.most
        have HAB : Hid (∀ ad, ao2 = some ad → ad.off = 0 ∧ ad.spot = none) := fun ad h => (hab ad h).2
        generalize hle : (M.file x.2).bytes.length = len at *
        have HLE := Lib.hid hle
        clear hb hvn hcell hf1 hf2 hf5 hf4 hrow hab hle
        by_cases hsh : len < a + n
        · have hE : M.readE nm a n = 5 := by unfold DiskM.readE; rw [if_pos ⟨HK.out, by omega, by omega⟩, HT.out, if_pos rfl, HO.out, HLE.out, if_pos (by omega)]
          have HE := Lib.hid hE
          have hd : decide ((len : Int) - (a : Int) < (n : Int)) = true := by simp; omega
          clear hE
          go_wp2
          go_ret2
          exact readOf_err HE.out (by decide) rfl HB.out
        · have hE : M.readE nm a n = 0 := by unfold DiskM.readE; rw [if_pos ⟨HK.out, by omega, by omega⟩, HT.out, if_pos rfl, HO.out, HLE.out, if_neg (by omega)]
          have HE : Hid (M.readE nm a n = 0 ∧ M.readB nm a n = ((M.file x.2).bytes.drop a).take n) := ⟨hE, by unfold DiskM.readB; rw [hE, if_pos rfl, HO.out, Int.toNat_natCast, Int.toNat_natCast]⟩
          have hd : decide ((len : Int) - (a : Int) < (n : Int)) = false := by simp; omega
          obtain ⟨ao', hao, hcut⟩ := cut_row HRW.out HAB.out (a := a) (n := n) (by omega)
          have HCUT := Lib.hid hcut
          have hnl : n ≤ 1048576 := by omega
          have hsum : a + n ≤ cap2 := by omega
          have hs3 : IntKind.i64.wrap ((a : Int) + (n : Int)) = (a : Int) + (n : Int) := by rw [IntKind.wrap_i64]; omega
          have hs4 : ((a : Int) + (n : Int)).toNat = a + n := by omega
          clear hE hcut
          cases ao2 with
          | none =>
            simp only at hao
            subst hao
            have hz := HRW.out.nil rfl
            subst hz
            obtain rfl : a = 0 := by omega
            obtain rfl : n = 0 := by omega
            go_wp2_with fail
            refine (bytesClone_any none 0 0 _ w1 HCUT.out (by omega)).mono ?_
            rintro e w2 ⟨v', rfl, k1, k2⟩
            have HK1 := Lib.hid k1
            have HB2 := Lib.hid (below_next HB.out k2)
            clear k1 k2
            go_wp2
            go_ret2
            rw [HE.out.1, HE.out.2]
            exact ⟨v', rfl, ownsRow_base HK1.out (fun k hk => by have := (HK1.out.lt k hk).1; have := HB.out.size; omega), HB2.out⟩
          | some ad =>
            obtain ⟨b0, off, sp⟩ := ad
            obtain ⟨e1, e2⟩ := HAB.out _ rfl
            simp only at e1 e2
            subst e1 e2
            by_cases hcap : cap2 = a
            · subst hcap
              simp only [if_true] at hao
              subst hao
              obtain rfl : n = 0 := by omega
              have hct := HCUT.out
              rw [Nat.sub_self] at hct
              have HCT := Lib.hid hct
              clear hct
              go_wp2_with fail
              refine (bytesClone_any _ 0 0 _ w1 HCT.out (by omega)).mono ?_
              rintro e w2 ⟨v', rfl, k1, k2⟩
              have HK1 := Lib.hid k1
              have HB2 := Lib.hid (below_next HB.out k2)
              clear k1 k2
              go_wp2
              go_ret2
              rw [HE.out.1, HE.out.2]
              exact ⟨v', rfl, ownsRow_base HK1.out (fun k hk => by have := (HK1.out.lt k hk).1; have := HB.out.size; omega), HB2.out⟩
            · simp only [if_neg hcap] at hao
              subst hao
              go_wp2_with fail
              refine (bytesClone_any _ _ _ _ w1 HCUT.out (by omega)).mono ?_
              rintro e w2 ⟨v', rfl, k1, k2⟩
              have HK1 := Lib.hid k1
              have HB2 := Lib.hid (below_next HB.out k2)
              clear k1 k2
              go_wp2
              go_ret2
              rw [HE.out.1, HE.out.2]
              exact ⟨v', rfl, ownsRow_base HK1.out (fun k hk => by have := (HK1.out.lt k hk).1; have := HB.out.size; omega), HB2.out⟩
      · have hE : M.readE nm a n = 1 := by unfold DiskM.readE; rw [if_neg (by rw [hok]; simp)]
        have HE := Lib.hid hE
        have HM := Lib.hid hm
        clear hE hm hok
        go_enter Try.func35, Try.ntmps35
        go_wp2_with fail
        refine (missing_1 L M nm w H.out hs HM.out).mono ?_
        rintro e w1 ⟨rfl, hb⟩
        have HB := Lib.hid hb
        clear hb
        go_wp2
        go_ret2
        exact readOf_err HE.out (by decide) rfl HB.out
      · have hE : M.readE nm a n = 7 := by unfold DiskM.readE; rw [if_pos ⟨hok, by omega, by omega⟩, hth]; rfl
        have HE := Lib.hid hE
        have HM := Lib.hid hm
        clear hE hm hok hth
        go_enter Try.func35, Try.ntmps35
        go_wp2_with fail
        refine (missing_7 L M nm w H.out hs HM.out).mono ?_
        rintro e w1 ⟨rfl, hb⟩
        have HB := Lib.hid hb
        clear hb
        go_wp2
        go_ret2
        exact readOf_err HE.out (by decide) rfl HB.out
end Go.Proofs.Ytkmanpmaflpgoaa
