/-
  WHAT IS PROVED: contracts of journals: contents, Open.
-/
import Derived.Test.YtkmanpmaflpgoaaJRead
import Derived.Test.YtkmanpmaflpgoaaHeld
namespace Go.Proofs.Ytkmanpmaflpgoaa
open Go.RowKit Go.Lib

/-- THE SLICE 'ao, n, cap' READS AS THE RECORDS rs -/
structure RowR (w : World) (ao : Option Addr) (n cap : Nat) (rs : List (List Nat)) : Prop where
  len : rs.length = n
  room : n ≤ cap
  most : cap ≤ 9223372036854775807
  nil : ao = none → cap = 0
  cell : ∀ a, ao = some a → ∀ j r, rs[j]? = some r → ∃ aj cj, w.cell? (a.add j) = some (.slice aj r.length cj) ∧ Row8 w aj r.length cj r

theorem RowR.kept {w w' : World} {ao : Option Addr} {n cap : Nat} {rs : List (List Nat)} (h : RowR w ao n cap rs) (hb : Below w.heap.size w w') : RowR w' ao n cap rs := by
  refine ⟨h.len, h.room, h.most, h.nil, fun a ha j r hr => ?_⟩
  obtain ⟨aj, cj, h1, h2⟩ := h.cell a ha j r hr
  exact ⟨aj, cj, (hb.cell (p := a.add j) (World.block_lt_of_cell? w _ h1)).trans h1, h2.kept hb⟩

theorem rowR_of {w W : World} {rs : List (List Nat)} {v : Value} (h : RecsV w rs W v) : ∃ ao cap, v = .slice ao rs.length cap ∧ RowR W ao rs.length cap rs := by
  obtain ⟨vs, h1, h2, h3⟩ := h
  rw [h2] at h1
  rcases h1.2 with ⟨rfl, hn⟩ | ⟨g, cap, cur, rfl, hg, hh, hc, hm, hs, ht⟩
  · refine ⟨none, 0, by rw [hn], ⟨rfl, by omega, by omega, fun _ => rfl, fun a ha => by simp at ha⟩⟩
  · refine ⟨_, cap, rfl, ⟨rfl, hc, hm, fun h => by simp at h, fun a ha j r hr => ?_⟩⟩
    obtain rfl := Option.some.inj ha
    have hj := (List.getElem?_eq_some_iff.1 hr).1
    have hx : vs[j]? = some (vs[j]'(by omega)) := by simp
    obtain ⟨aj, cj, e1, e2, _⟩ := h3 j _ r hx hr
    have hcell := h1.cells (g := g) rfl j _ hx
    rw [e1] at hcell
    exact ⟨aj, cj, hcell, e2⟩

/-! ### contents -/
theorem readE_all (M : DiskM) (nm : ByteArray) (h : M.miss nm = 0) : M.readE nm 0 (M.sizeN nm) = 0 := by
  rcases miss_cases M nm with ⟨hm, hok, hth⟩ | ⟨hm, hok⟩ | ⟨hm, hok, hth⟩
  · have h1 : M.sizeN nm = (M.file (M.of nm)).bytes.length := by unfold DiskM.sizeN; rw [hm, if_pos rfl]
    unfold DiskM.readE; rw [if_pos ⟨hok, by omega, by omega⟩, hth, if_pos rfl, h1, if_neg (by omega)]
  · omega
  · omega

theorem contents_0 (L : LayD) (M : DiskM) (nm : ByteArray) (w : World) (h : DiskAt w L M) (hs : nm.size ≤ 4294967296) (hm : M.miss nm = 0) :
    Calls Try.prog 24 #[.pointer (some ⟨L.d, 0, none⟩), .string nm] w fun e w' => ∃ ao cap, e = .returned (.tuple #[.slice ao (M.all nm).length cap, .int .i64 0]) ∧ Row8 w' ao (M.all nm).length cap (M.all nm) ∧ Below w.heap.size w w' := by
  have H := Lib.hid h
  have HM := Lib.hid hm
  have HE := Lib.hid (readE_all M nm hm)
  have hsz := sizeN_le h nm
  clear h hm
  go_enter Try.func24, Try.ntmps24
  go_wp2_with fail
  have hsize := size_any L M nm w H.out hs
  rw [HM.out] at hsize
  refine hsize.mono ?_
  rintro e w1 ⟨rfl, hb1⟩
  have H1 := Lib.hid (H.out.below hb1)
  have HB1 := Lib.hid hb1
  clear hsize hb1
  go_wp2_with fail
  refine (read_any L M nm 0 (M.sizeN nm) (by omega) (by omega) w1 H1.out hs).mono ?_
  rintro e w2 ⟨v, rfl, hown, hb2⟩
  rw [all_read] at hown
  obtain ⟨ao, cap, rfl, hrow, _⟩ := Row8.of_owns hown (all_byte H1.out nm).1
  have HR := Lib.hid hrow
  have HB2 := Lib.hid (below_next HB1.out hb2)
  rw [HE.out]
  clear hown hb2 hrow
  go_wp2
  go_ret2
  exact ⟨_, _, rfl, HR.out, HB2.out⟩

theorem contents_7 (L : LayD) (M : DiskM) (nm : ByteArray) (w : World) (h : DiskAt w L M) (hs : nm.size ≤ 4294967296) (hm : M.miss nm = 7) :
    Calls Try.prog 24 #[.pointer (some ⟨L.d, 0, none⟩), .string nm] w fun e w' => e = .returned (.tuple #[.slice none 0 0, .int .i64 (M.createE nm : Nat)]) ∧ ∃ L', Moves L w L' w' ∧ DiskAt w' L' (M.createM nm) := by
  have H := Lib.hid h
  have HM := Lib.hid hm
  have hsz := sizeN_le h nm
  clear h hm
  go_enter Try.func24, Try.ntmps24
  go_wp2_with fail
  have hsize := size_any L M nm w H.out hs
  rw [HM.out] at hsize
  refine hsize.mono ?_
  rintro e w1 ⟨rfl, hb1⟩
  have H1 := Lib.hid (H.out.below hb1)
  have HB1 := Lib.hid hb1
  clear hsize hb1
  go_wp2_with fail
  refine (create_any L M nm w1 H1.out hs).mono ?_
  rintro e w2 ⟨rfl, L', hmv, hd⟩
  have HMV := Lib.hid hmv
  have HD := Lib.hid hd
  clear hmv hd
  go_wp2
  go_ret2
  exact ⟨rfl, L', (Moves.of_below HB1.out).trans HMV.out, HD.out⟩

theorem contents_1 (L : LayD) (M : DiskM) (nm : ByteArray) (w : World) (h : DiskAt w L M) (hs : nm.size ≤ 4294967296) (hm : M.miss nm = 1) :
    Calls Try.prog 24 #[.pointer (some ⟨L.d, 0, none⟩), .string nm] w fun e w' => e = .returned (.tuple #[.slice none 0 0, .int .i64 1]) ∧ Below w.heap.size w w' := by
  have H := Lib.hid h
  have HM := Lib.hid hm
  have hsz := sizeN_le h nm
  clear h hm
  go_enter Try.func24, Try.ntmps24
  go_wp2_with fail
  have hsize := size_any L M nm w H.out hs
  rw [HM.out] at hsize
  refine hsize.mono ?_
  rintro e w1 ⟨rfl, hb1⟩
  have HB1 := Lib.hid hb1
  clear hsize hb1
  go_wp2
  go_ret2
  exact ⟨rfl, HB1.out⟩

/-- a journal in memory -/
def jObj (d : Nat) (nm : ByteArray) (stop : Nat) : Obj := .cells #[.pointer (some ⟨d, 0, none⟩), .string nm, .int .i64 (stop : Int)] 25 (0, 0)

/-- a journal that was opened: of a file with bytes b -/
def OpenedJ (d : Nat) (nm : ByteArray) (b : List Nat) (w : World) (e : Ending) (w' : World) : Prop :=
  ∃ j ao cap, e = .returned (.tuple #[.pointer (some ⟨j, 0, none⟩), .slice ao (readM b).recs.length cap, .int .i64 0]) ∧ w'.heap[j]? = some (jObj d nm (readM b).stop) ∧ w.heap.size ≤ j ∧ RowR w' ao (readM b).recs.length cap (readM b).recs

theorem open_0 (L : LayD) (M : DiskM) (nm : ByteArray) (w : World) (h : DiskAt w L M) (hs : nm.size ≤ 4294967296) (hm : M.miss nm = 0) :
    Calls Try.prog 9 #[.pointer (some ⟨L.d, 0, none⟩), .string nm] w fun e w' => OpenedJ L.d nm (M.all nm) w e w' ∧ Below w.heap.size w w' := by
  have H := Lib.hid h
  have HM := Lib.hid hm
  have hlen := (all_byte h nm).2
  clear h hm
  go_enter Try.func9, Try.ntmps9
  go_wp2_with fail
  refine (contents_0 L M nm w H.out hs HM.out).mono ?_
  rintro e w1 ⟨ao, cap, rfl, hrow, hb1⟩
  have HR := Lib.hid hrow
  have HB1 := Lib.hid hb1
  clear hrow hb1
  obtain ⟨b, hb⟩ : ∃ b, M.all nm = b := ⟨_, rfl⟩
  have HBE := Lib.hid hb
  rw [hb] at HR hlen ⊢
  clear hb
  go_wp2_with fail
  refine (read_n b ao b.length cap w1 HR.out (by omega)).mono ?_
  rintro e w2 ⟨v, rfl, hrec, hb2⟩
  obtain ⟨vo, vc, rfl, hrr⟩ := rowR_of hrec
  have HRR := Lib.hid hrr
  have HB2 := Lib.hid (below_next HB1.out hb2)
  clear hrec hrr hb2
  generalize hrs : (readM b).recs = rs at *
  generalize hst : (readM b).stop = stop at *
  have HRS := Lib.hid hrs
  have HST := Lib.hid hst
  clear hrs hst
  go_wp2_with fail
  refine (strClone_any nm w2 hs).mono ?_
  rintro e w3 ⟨rfl, hb3⟩
  have HRR3 := Lib.hid (HRR.out.kept hb3)
  have HB3 := Lib.hid (below_next HB2.out hb3)
  clear hb3
  go_wp2
  refine bodyPost_ret (v := .tuple #[.pointer (some ⟨w3.heap.size, 0, none⟩), .slice vo rs.length vc, .int .i64 0]) (by simp [results, Try.f9, go_sem]) rfl ⟨⟨w3.heap.size, vo, vc, ?_, ?_, HB3.out.size, ?_⟩, below_step_a HB3.out _⟩
  · rw [HBE.out, HRS.out]
  · rw [HBE.out, HST.out]; exact heap_alloc_new w3 _
  · rw [HBE.out, HRS.out]; exact HRR3.out.kept (below_alloc w3 _)

theorem readM_nil : (readM []).recs = [] ∧ (readM []).stop = 0 := by
  have : partsFrom [] 0 = [] := partsFrom_no rfl
  unfold readM
  rw [this]
  exact ⟨rfl, rfl⟩

theorem open_7 (L : LayD) (M : DiskM) (nm : ByteArray) (w : World) (h : DiskAt w L M) (hs : nm.size ≤ 4294967296) (hm : M.miss nm = 7) (hc : M.createE nm = 0) :
    Calls Try.prog 9 #[.pointer (some ⟨L.d, 0, none⟩), .string nm] w fun e w' => OpenedJ L.d nm [] w e w' ∧ ∃ L' w1, Moves L w L' w1 ∧ DiskAt w1 L' (M.createM nm) ∧ Below w1.heap.size w1 w' ∧ ∀ j x y, e = .returned (.tuple #[.pointer (some ⟨j, 0, none⟩), x, y]) → w1.heap.size ≤ j := by
  have H := Lib.hid h
  have HM := Lib.hid hm
  have HC := Lib.hid hc
  clear h hm hc
  go_enter Try.func9, Try.ntmps9
  go_wp2_with fail
  refine (contents_7 L M nm w H.out hs HM.out).mono ?_
  rintro e w1 ⟨rfl, L', hmv, hd⟩
  rw [HC.out]
  have HMV := Lib.hid hmv
  have HD := Lib.hid hd
  clear hmv hd
  go_wp2_with fail
  refine (read_n [] none 0 0 w1 (row_nil w1) (by omega)).mono ?_
  rintro e w2 ⟨v, rfl, hrec, hb2⟩
  obtain ⟨vo, vc, rfl, hrr⟩ := rowR_of hrec
  have HRR := Lib.hid hrr
  have HB2 := Lib.hid hb2
  clear hrec hrr hb2
  generalize hrs : (readM []).recs = rs at *
  generalize hst : (readM []).stop = stop at *
  have HRS := Lib.hid hrs
  have HST := Lib.hid hst
  clear hrs hst
  go_wp2_with fail
  refine (strClone_any nm w2 hs).mono ?_
  rintro e w3 ⟨rfl, hb3⟩
  have HRR3 := Lib.hid (HRR.out.kept hb3)
  have HB3 := Lib.hid (below_next HB2.out hb3)
  clear hb3
  go_wp2
  refine bodyPost_ret (v := .tuple #[.pointer (some ⟨w3.heap.size, 0, none⟩), .slice vo rs.length vc, .int .i64 0]) (by simp [results, Try.f9, go_sem]) rfl ⟨⟨w3.heap.size, vo, vc, ?_, ?_, Nat.le_trans HMV.out.size HB3.out.size, ?_⟩, L', w1, HMV.out, HD.out, below_step_a HB3.out _, ?_⟩
  · rw [HRS.out]
  · rw [HST.out]; exact heap_alloc_new w3 _
  · rw [HRS.out]; exact HRR3.out.kept (below_alloc w3 _)
  · intro j x y he
    simp at he
    have := HB3.out.size
    omega
end Go.Proofs.Ytkmanpmaflpgoaa
