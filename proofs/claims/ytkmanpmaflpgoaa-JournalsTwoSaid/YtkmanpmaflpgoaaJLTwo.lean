/-
  WHAT IS PROVED: the walk of JournalsTwo.
-/
import Derived.Test.YtkmanpmaflpgoaaJFootB
import Derived.Test.YtkmanpmaflpgoaaJLRefuse
namespace Go.Proofs.Ytkmanpmaflpgoaa
open Go.RowKit Go.Lib

/-- two journals of one file, the slice that names them, and which of them is behind -/
def twoL (d B T j0 j1 e0 e1 : Nat) (s0 s1 : Bool) : List (Nat × Obj) :=
  [(j0, jObj d nJ e0), (j1, jObj d nJ e1), (B, .cells #[.pointer (some ⟨j0, 0, none⟩), .pointer (some ⟨j1, 0, none⟩)] 30 (0, 0)), (T, .cells #[.bool s0, .bool s1] 53 (0, 0))]

theorem perm_4 {α : Type} (a b c e : α) : [a, b, c, e].Perm [c, e, b, a] := (List.perm_append_comm (l₁ := [a, b]) (l₂ := [c, e])).trans (((List.Perm.swap b a []).cons e).cons c)

theorem bytesOf_snoc (l : List (List Nat)) (r : List Nat) : bytesOf (l ++ [r]) = bytesOf l + r.length := by unfold bytesOf; simp
theorem two_room {rs done : List (List Nat)} {k : Nat} {x : List Nat} (hb : ¬ bigR rs) (h1 : bytesOf done ≤ bytesOf (rs.take k)) (h2 : bytesOf (rs.take (k + 1)) = bytesOf (rs.take k) + x.length) (h3 : bytesOf (rs.take (k + 1)) ≤ bytesOf rs) (h4 : done.length ≤ k) (h5 : k ≤ 40) :
    (allB 0 (done ++ [x])).length ≤ 1000000 ∧ bytesOf (done ++ [x]) ≤ bytesOf (rs.take (k + 1)) := by
  have h6 := allB_len (done ++ [x]) 0
  rw [bytesOf_snoc, List.length_append] at h6
  rw [bytesOf_snoc]
  unfold bigR at hb
  simp only [List.length_cons, List.length_nil] at h6
  exact ⟨by omega, by omega⟩

section
variable {w0 w : World} {d B T j0 j1 e0 e1 : Nat} {s0 s1 : Bool} {M M' : DiskM} {S : Nat → Prop} {k : Int}

theorem twoJ_cells {Y : List (Nat × Obj)} (h : HasS w0 w d M Y S) (hY : ∀ x ∈ twoL d B T j0 j1 e0 e1 s0 s1, x ∈ Y) : w.cell? ⟨B, 0, none⟩ = some (.pointer (some ⟨j0, 0, none⟩)) ∧ w.cell? ⟨B, 1, none⟩ = some (.pointer (some ⟨j1, 0, none⟩)) ∧ w.cell? ⟨T, 0, none⟩ = some (.bool s0) ∧ w.cell? ⟨T, 1, none⟩ = some (.bool s1) ∧ T ≠ B := by
  have h1 := h.item (x := (B, .cells #[.pointer (some ⟨j0, 0, none⟩), .pointer (some ⟨j1, 0, none⟩)] 30 (0, 0))) (hY _ (by simp [twoL]))
  have h2 := h.item (x := (T, .cells #[.bool s0, .bool s1] 53 (0, 0))) (hY _ (by simp [twoL]))
  refine ⟨cell_of_block h1 0, cell_of_block h1 1, cell_of_block h2 0, cell_of_block h2 1, fun e => ?_⟩
  simp only at h1 h2
  rw [e, h1] at h2
  simp at h2

theorem twoJ_soft {Y : List (Nat × Obj)} (h : HasS w0 w d M Y S) (hY : ∀ x ∈ twoL d B T j0 j1 e0 e1 s0 s1, x ∈ Y) : w.frozen? ⟨B, 0, none⟩ = false ∧ w.frozen? ⟨B, 1, none⟩ = false ∧ w.frozen? ⟨T, 0, none⟩ = false ∧ w.frozen? ⟨T, 1, none⟩ = false := by
  have h1 : w.heap[B]? = _ := h.item (x := (B, .cells #[.pointer (some ⟨j0, 0, none⟩), .pointer (some ⟨j1, 0, none⟩)] 30 (0, 0))) (hY _ (by simp [twoL]))
  have h2 : w.heap[T]? = _ := h.item (x := (T, .cells #[.bool s0, .bool s1] 53 (0, 0))) (hY _ (by simp [twoL]))
  refine ⟨?_, ?_, ?_, ?_⟩ <;> simp [World.frozen?, h1, h2]

theorem two_flag0 (h : HasS w0 w d M (twoL d B T j0 j1 e0 e1 s0 s1) S) (b : Bool) : HasS w0 (w.setCell ⟨T, 0, none⟩ (.bool b)) d M (twoL d B T j0 j1 e0 e1 b s1) S ∧ MovesX S w S (w.setCell ⟨T, 0, none⟩ (.bool b)) := by
  have h1 := (h.perm (Y := _ :: [_, _, _]) (List.perm_middle (l₁ := [_, _, _]) (l₂ := []))).set 0 (.bool b)
  exact ⟨h1.1.perm (List.perm_middle (l₁ := [_, _, _]) (l₂ := [])).symm, h1.2⟩
theorem two_flag1 (h : HasS w0 w d M (twoL d B T j0 j1 e0 e1 s0 s1) S) (b : Bool) : HasS w0 (w.setCell ⟨T, 1, none⟩ (.bool b)) d M (twoL d B T j0 j1 e0 e1 s0 b) S ∧ MovesX S w S (w.setCell ⟨T, 1, none⟩ (.bool b)) := by
  have h1 := (h.perm (Y := _ :: [_, _, _]) (List.perm_middle (l₁ := [_, _, _]) (l₂ := []))).set 1 (.bool b)
  exact ⟨h1.1.perm (List.perm_middle (l₁ := [_, _, _]) (l₂ := [])).symm, h1.2⟩
theorem two_open0 {j e : Nat} (h : HasS w0 w d M ((j, jObj d nJ e) :: twoL d B T j0 j1 e0 e1 s0 s1) S) :
    ∃ S', HasS w0 ((w.setCell ⟨B, 0, none⟩ (.pointer (some ⟨j, 0, none⟩))).setCell ⟨T, 0, none⟩ (.bool false)) d M (twoL d B T j j1 e e1 false s1) S' ∧ MovesX S w S' ((w.setCell ⟨B, 0, none⟩ (.pointer (some ⟨j, 0, none⟩))).setCell ⟨T, 0, none⟩ (.bool false)) := by
  have h1 := (h.perm (Y := _ :: [_, _, _, _]) (List.perm_middle (l₁ := [_, _, _]) (l₂ := [_]))).set 0 (.pointer (some ⟨j, 0, none⟩))
  have h2 := (h1.1.perm (Y := _ :: [_, _, _, _]) (List.perm_middle (l₁ := [_, _, _, _]) (l₂ := []))).set 0 (.bool false)
  -- [T, B, j, j0, j1]
  obtain ⟨S', h3, h4⟩ := (h2.1.perm (Y := _ :: [_, _, _, _]) (List.perm_middle (l₁ := [_, _, _]) (l₂ := [_]))).drop
  -- [T, B, j, j1]
  refine ⟨S', h3.perm ?_, (h1.2.trans h2.2).trans ⟨rfl, rfl, rfl, Nat.le_refl _, fun _ _ _ => rfl, fun k hk => .inl (h4 k hk)⟩⟩
  exact perm_4 _ _ _ _
theorem two_open1 {j e : Nat} (h : HasS w0 w d M ((j, jObj d nJ e) :: twoL d B T j0 j1 e0 e1 s0 s1) S) :
    ∃ S', HasS w0 ((w.setCell ⟨B, 1, none⟩ (.pointer (some ⟨j, 0, none⟩))).setCell ⟨T, 1, none⟩ (.bool false)) d M (twoL d B T j0 j e0 e s0 false) S' ∧ MovesX S w S' ((w.setCell ⟨B, 1, none⟩ (.pointer (some ⟨j, 0, none⟩))).setCell ⟨T, 1, none⟩ (.bool false)) := by
  have h1 := (h.perm (Y := _ :: [_, _, _, _]) (List.perm_middle (l₁ := [_, _, _]) (l₂ := [_]))).set 1 (.pointer (some ⟨j, 0, none⟩))
  have h2 := (h1.1.perm (Y := _ :: [_, _, _, _]) (List.perm_middle (l₁ := [_, _, _, _]) (l₂ := []))).set 1 (.bool false)
  -- [T, B, j, j0, j1]
  obtain ⟨S', h3, h4⟩ := (h2.1.perm (Y := _ :: [_, _, _, _]) (List.perm_middle (l₁ := [_, _, _, _]) (l₂ := []))).drop
  -- [T, B, j, j0]
  refine ⟨S', h3.perm ?_, (h1.2.trans h2.2).trans ⟨rfl, rfl, rfl, Nat.le_refl _, fun _ _ _ => rfl, fun k hk => .inl (h4 k hk)⟩⟩
  exact (perm_4 _ _ _ _).trans (List.Perm.swap _ _ _)

/-- a record by either of both -/
theorem two_add0 (h : HasS w0 w d M (twoL d B T j0 j1 e0 e1 s0 s1) S) {e : Nat} (ao : Option Addr) (n cap : Nat) (r : List Nat) (hr : Row8 w ao n cap r) (hk : (M.addE nJ e0 r : Int) = k) (hM : M.addM nJ e0 r = M') (hS : M.addS nJ e0 r = e) :
    Calls Try.prog 10 #[.pointer (some ⟨j0, 0, none⟩), .slice ao n cap] w (DoesS w0 w d M' (twoL d B T j0 j1 e e1 s0 s1) S k) := add_s h (by decide) ao n cap r hr hk hM hS
theorem two_add1 (h : HasS w0 w d M (twoL d B T j0 j1 e0 e1 s0 s1) S) {e : Nat} (ao : Option Addr) (n cap : Nat) (r : List Nat) (hr : Row8 w ao n cap r) (hk : (M.addE nJ e1 r : Int) = k) (hM : M.addM nJ e1 r = M') (hS : M.addS nJ e1 r = e) :
    Calls Try.prog 10 #[.pointer (some ⟨j1, 0, none⟩), .slice ao n cap] w (DoesS w0 w d M' (twoL d B T j0 j1 e0 e s0 s1) S k) :=
  (add_s (h.perm (List.Perm.swap _ _ _)) (by decide) ao n cap r hr hk hM hS).mono fun _ _ ⟨he, S', h1, h2⟩ => ⟨he, S', h1.perm (List.Perm.swap _ _ _), h2⟩
end

/-- between two rounds -/
def TwoRel (w : World) (d B T : Nat) (rs : List (List Nat)) (k : Nat) (v : Value) (done : List (List Nat)) (wr : World) : Prop :=
  ∃ (j0 j1 e0 e1 : Nat) (s0 s1 : Bool) (vs : List Value) (S : Nat → Prop), HasS w wr d (jM 1000000 (allB 0 done) 0) (twoL d B T j0 j1 e0 e1 s0 s1) S ∧ Put w wr S v vs done ∧ (s0 = false → e0 = (allB 0 done).length) ∧ (s0 = true → e0 < (allB 0 done).length) ∧
    (s1 = false → e1 = (allB 0 done).length) ∧ (s1 = true → e1 < (allB 0 done).length) ∧ bytesOf done ≤ bytesOf (rs.take k)

set_option maxRecDepth 100000 in
set_option maxHeartbeats 8000000 in
theorem walk_JournalsTwo (ao : Option Addr) (n cap : Nat) (rs : List (List Nat)) {w : World} (hr : RowB w ao n cap rs) (bo : Option Addr) (m cap2 : Nat) (l : List Nat) (hl : Row8 w bo m cap2 l) :
    Calls Try.prog 7 #[.slice ao n cap, .slice bo m cap2] w fun e w' => e = .returned (.bool true) ∧ Below w.heap.size w w' := by
  have HRB := Lib.hid hr
  have HL := Lib.hid hl
  obtain rfl := hr.row.len
  by_cases hbig : bigR rs
  · have HBIG := Lib.hid hbig
    clear hr hbig hl
    go_enter Try.func7, Try.ntmps7
    go_wp2_with fail
    refine (many_yes1 _ ao rs.length cap rs _ (by exact cell_one_new _ _ _ 0 _ rfl) (HRB.out.kept (below_alloc _ _)) HBIG.out).mono ?_
    rintro e w1 ⟨rfl, b1⟩
    have B1 := Lib.hid (below_next (below_alloc _ _) b1)
    clear b1
    go_wp2_with fail
    refine (alive_yes w1).mono ?_
    rintro e w2 ⟨rfl, b2⟩
    have B2 := Lib.hid (below_next B1.out b2)
    clear b2
    go_wp2
    go_ret
    exact ⟨rfl, B2.out⟩
  · obtain ⟨h40, hea⟩ := few_each hbig
    have HEA := Lib.hid hea
    have HBIG := Lib.hid hbig
    clear hr hbig hea hl
    by_cases hm : m < rs.length
    · go_enter Try.func7, Try.ntmps7
      go_wp2_with fail
      refine (many_no1 _ ao rs.length cap rs _ (by exact cell_one_new _ _ _ 0 _ rfl) (HRB.out.kept (below_alloc _ _)) HBIG.out).mono ?_
      rintro e w1 ⟨rfl, b1⟩
      have B1 := Lib.hid (below_next (below_alloc _ _) b1)
      clear b1
      go_wp2_with fail
      refine (alive_yes w1).mono ?_
      rintro e w2 ⟨rfl, b2⟩
      have B2 := Lib.hid (below_next B1.out b2)
      clear b2
      go_wp2
      go_ret
      exact ⟨rfl, B2.out⟩
    · go_enter Try.func7, Try.ntmps7
      go_wp2_with fail
      refine (many_no1 _ ao rs.length cap rs _ (by exact cell_one_new _ _ _ 0 _ rfl) (HRB.out.kept (below_alloc _ _)) HBIG.out).mono ?_
      rintro e w1 ⟨rfl, b1⟩
      have B1 := Lib.hid (below_next (below_alloc _ _) b1)
      clear b1
      go_wp2_with fail
      refine (opened_x w w1 B1.out 1000000 (by omega) (by omega)).mono ?_
      rintro e w2 ⟨d, j0, rfl, h2⟩
      obtain ⟨S2, h2⟩ := h2.s
      have H2 := Lib.hid h2
      clear h2
      go_wp2_with fail
      refine (open_s H2.out nJ (by decide) (jM_miss _ _ _) (rs := []) (stop := 0) (by rw [jM_all]; exact readM_nil.1) (by rw [jM_all]; exact readM_nil.2)).mono ?_
      rintro e w3 ⟨j1, a3, c3, S3, rfl, h3, m3, _, _, _⟩
      have H3 := Lib.hid h3
      clear h3 m3
      go_wp2_with fail
      go_loopw [12, 13] (fun v i wr => ∃ (k : Nat) (done : List (List Nat)) (vo : Option Addr) (vc : Nat), k ≤ rs.length ∧ i = .int .i64 k ∧ v = .slice vo done.length vc ∧ done.length ≤ k ∧ Hid (TwoRel w d w3.heap.size (w3.heap.size + 1) rs k (.slice vo done.length vc) done wr)) (fun _ i _ => rs.length - (RowKit.intOf i).toNat)
      case atStart =>
        obtain ⟨S4, h4, _⟩ := (H3.out.perm (List.Perm.swap _ _ _)).add (below_alloc w3 (.cells #[.pointer (some ⟨j0, 0, none⟩), .pointer (some ⟨j1, 0, none⟩)] 30)) (Nat.le_refl _) (heap_alloc_new _ _)
        obtain ⟨S5, h5, _⟩ := h4.add (below_alloc _ (.cells #[.bool false, .bool false] 53)) (Nat.le_refl _) (heap_alloc_new _ _)
        rw [World.size_alloc] at h5
        exact ⟨0, [], none, 0, by omega, rfl, rfl, by simp, Lib.hid ⟨j0, j1, 0, 0, false, false, [], S5, h5.perm (perm_4 _ _ _ _), put_nil _ _ _, fun _ => rfl, fun h => by simp at h, fun _ => rfl, fun h => by simp at h, Nat.zero_le _⟩⟩
      case round =>
        obtain ⟨k, done, vo, vc, hk, rfl, rfl, hdk, HREL⟩ := hrel
        generalize w3.heap.size = B at *
        generalize B + 1 = T at *
        by_cases hlt : k < rs.length
        · obtain ⟨b, off, x, aj, cj, rfl, hx, hcell, hxr⟩ := HRB.out.row.one k hlt
          have hx4 := HEA.out x (List.mem_of_getElem? hx)
          have HC := Lib.hid hcell
          have HXR := Lib.hid hxr
          have HNX := Lib.hid (bytesOf_next rs k x hx)
          have HLE := Lib.hid (bytesOf_le rs (k + 1))
          obtain ⟨c, off2, rfl, hby⟩ := HL.out.lies (by omega)
          obtain ⟨j0, j1, e0, e1, s0, s1, vs, S, hs, hp, z0, z1, z2, z3, hby2⟩ := HREL.out
          have HS := Lib.hid hs
          have HP := Lib.hid hp
          clear HREL hs hp hcell hxr hx
          obtain ⟨v, hv⟩ : ∃ v, l[k]? = some v := ⟨l[k]'(by rw [HL.out.len]; omega), List.getElem?_eq_getElem _⟩
          have hv256 : v < 256 := HL.out.byte v (List.mem_of_getElem? hv)
          have hcb := hby k v hv
          have HBC : Hid (∀ W, Below w.heap.size w W → W.cell? ⟨c, off2 + k, none⟩ = some (.int .u8 (v : Int))) := Lib.hid fun W hW => (hW.cell (p := ⟨c, off2 + k, none⟩) (World.block_lt_of_cell? w _ hcb)).trans hcb
          have hroom := two_room HBIG.out hby2 HNX.out HLE.out hdk (by omega)
          have hmore := allB_more done x
          have HROOM := Lib.hid hroom.2
          have hfit := hroom.1
          have c1 := HC.out wr HS.out.below
          have c2 := HBC.out wr HS.out.below
          have BY := Lib.hid hby2
          clear hby hv hcb hroom hby2
          have ⟨y0, y1, y2, y3, hTB⟩ := twoJ_cells HS.out (fun _ h => h)
          have Z0 := Lib.hid z0
          have Z1 := Lib.hid z1
          have Z2 := Lib.hid z2
          have Z3 := Lib.hid z3
          clear z0 z1 z2 z3
          have hpar : v % 2 = 0 ∨ v % 2 = 1 := by omega
          rcases hpar with h2 | h2
          · have h2' : (v : Int) % 2 = 0 := by omega
            have hlow : e1 < (allB 0 (done ++ [x])).length := by cases s1 with | false => (have := Z2.out rfl; omega) | true => (have := Z3.out rfl; omega)
            by_cases h3 : v % 3 = 0
            · have h3' : (v : Int) % 3 = 0 := by omega
              go_wp2_with fail
              refine (open_s HS.out nJ (by decide) (jM_miss _ _ _) (rs := done) (stop := (allB 0 done).length) (by rw [jM_all]; exact (read_all done).1) (by rw [jM_all]; exact (read_all done).2)).mono ?_
              rintro e w4 ⟨jn, a4, q4, S4, rfl, h4, m4, r4, _, _⟩
              have HS4 := Lib.hid h4
              have HP4 := Lib.hid (HP.out.moved m4)
              have HR4 := Lib.hid r4
              clear h4 m4 r4 HS HP c1 c2 y0 y1 y2 y3 hTB
              go_wp2_with fail
              obtain ⟨ao', cap', he, hrow⟩ := HP4.out.row HS4.out.below
              obtain ⟨rfl, -, rfl⟩ := Value.slice.inj he
              refine (sameRecords_same _ _ _ _ _ done w4 HR4.out hrow).mono ?_
              clear he hrow
              rintro e w5 ⟨rfl, b5⟩
              have HS5 := Lib.hid (HS4.out.kept b5)
              have HP5 := Lib.hid (HP4.out.kept b5)
              clear b5 HS4 HP4 HR4
              have ⟨y0, y1, y2, y3, hTB⟩ := twoJ_cells HS5.out (fun _ h => List.mem_cons_of_mem _ h)
              have ⟨f0, f1, f2, f3⟩ := twoJ_soft HS5.out (fun _ h => List.mem_cons_of_mem _ h)
              go_wp2_with fail
              clear y0 y1 y2 y3 hTB f0 f1 f2 f3
              obtain ⟨S6, h6, m6⟩ := two_open0 HS5.out
              generalize (w5.setCell ⟨B, 0, none⟩ (.pointer (some ⟨jn, 0, none⟩))).setCell ⟨T, 0, none⟩ (.bool false) = wr at *
              have HS := Lib.hid h6
              have HP := Lib.hid (HP5.out.moved m6)
              clear h6 m6 HS5 HP5
              have c1 := HC.out wr HS.out.below
              have c2 := HBC.out wr HS.out.below
              have ⟨y0, y1, y2, y3, hTB⟩ := twoJ_cells HS.out (fun _ h => h)
              have hadd := Lib.hid (jM_add 1000000 done 0 x (by omega) hfit (by omega))
              go_region_held3 (fun W => W.cell? ⟨B, 0, none⟩ = some (.pointer (some ⟨jn, 0, none⟩)) ∧ W.cell? ⟨b, off + k, none⟩ = some (.slice aj x.length cj)) (first | exact ⟨y0, c1⟩ | exact SS.out) ((first
                | (go_at_call 10; refine (two_add0 HS.out.drew aj x.length cj x (HXR.out.kept HS.out.below).drew (k := 0) (by rw [hadd.out.1]; rfl) hadd.out.2.1 hadd.out.2.2).mono ?_; rintro e wb ⟨rfl, SB, hsb, mb⟩; have HSB := Lib.hid hsb; have HPB := Lib.hid ((HP.out.kept (Below.refl _ _).drew).moved mb); have SS := Lib.hid (⟨(twoJ_cells hsb (fun _ h => h)).1, HC.out wb hsb.below⟩ : _ ∧ _); clear hsb mb)))
              clear HS HP hadd c1 c2 y0 y1 y2 y3 hTB
              have ⟨t0, t1, t2, t3, hTB2⟩ := twoJ_cells HSB.out (fun _ h => h)
              have cb := HC.out wb HSB.out.below
              go_wp2_with (at_builtin; refine wpList_put rfl _ _ rfl _ vs done aj cj x rfl wb rfl rfl HSB.out.below HSB.out.lt HPB.out HXR.out (by omega) ?_)
              clear t0 t1 t2 t3 hTB2 cb
              intro vo2 vc2 wc kc pc bc
              have HSC := Lib.hid (HSB.out.same kc bc)
              have HPC := Lib.hid pc
              clear kc pc bc HSB HPB
              have ⟨u0, u1, u2, u3, hTB3⟩ := twoJ_cells HSC.out (fun _ h => h)
              have ⟨f0, f1, f2, f3⟩ := twoJ_soft HSC.out (fun _ h => h)
              go_wp2
              go_roundw
              case rel =>
                have hf := two_flag1 HSC.out true
                exact ⟨k + 1, done ++ [x], vo2, vc2, by omega, by go_num, by rw [List.length_append]; rfl, by rw [List.length_append]; simp; omega, Lib.hid ⟨_, _, _, _, _, _, _, SB, hf.1, by rw [List.length_append]; exact HPC.out.moved hf.2, fun _ => rfl, fun h => by simp at h, fun h => by simp at h, fun _ => hlow, HROOM.out⟩⟩
              case measure => simp [RowKit.intOf]; omega
            · have h3' : ¬ (v : Int) % 3 = 0 := by omega
              cases s0 with
              | false =>
                obtain rfl := Z0.out rfl
                go_wp2_with fail
                have hadd := Lib.hid (jM_add 1000000 done 0 x (by omega) hfit (by omega))
                go_region_held3 (fun W => W.cell? ⟨B, 0, none⟩ = some (.pointer (some ⟨j0, 0, none⟩)) ∧ W.cell? ⟨b, off + k, none⟩ = some (.slice aj x.length cj)) (first | exact ⟨y0, c1⟩ | exact SS.out) ((first
                  | (go_at_call 10; refine (two_add0 HS.out.drew aj x.length cj x (HXR.out.kept HS.out.below).drew (k := 0) (by rw [hadd.out.1]; rfl) hadd.out.2.1 hadd.out.2.2).mono ?_; rintro e wb ⟨rfl, SB, hsb, mb⟩; have HSB := Lib.hid hsb; have HPB := Lib.hid ((HP.out.kept (Below.refl _ _).drew).moved mb); have SS := Lib.hid (⟨(twoJ_cells hsb (fun _ h => h)).1, HC.out wb hsb.below⟩ : _ ∧ _); clear hsb mb)))
                clear HS HP hadd c1 c2 y0 y1 y2 y3 hTB
                have ⟨t0, t1, t2, t3, hTB2⟩ := twoJ_cells HSB.out (fun _ h => h)
                have cb := HC.out wb HSB.out.below
                go_wp2_with (at_builtin; refine wpList_put rfl _ _ rfl _ vs done aj cj x rfl wb rfl rfl HSB.out.below HSB.out.lt HPB.out HXR.out (by omega) ?_)
                clear t0 t1 t2 t3 hTB2 cb
                intro vo2 vc2 wc kc pc bc
                have HSC := Lib.hid (HSB.out.same kc bc)
                have HPC := Lib.hid pc
                clear kc pc bc HSB HPB
                have ⟨u0, u1, u2, u3, hTB3⟩ := twoJ_cells HSC.out (fun _ h => h)
                have ⟨f0, f1, f2, f3⟩ := twoJ_soft HSC.out (fun _ h => h)
                go_wp2
                go_roundw
                case rel =>
                  have hf := two_flag1 HSC.out true
                  exact ⟨k + 1, done ++ [x], vo2, vc2, by omega, by go_num, by rw [List.length_append]; rfl, by rw [List.length_append]; simp; omega, Lib.hid ⟨_, _, _, _, _, _, _, SB, hf.1, by rw [List.length_append]; exact HPC.out.moved hf.2, fun _ => rfl, fun h => by simp at h, fun h => by simp at h, fun _ => hlow, HROOM.out⟩⟩
                case measure => simp [RowKit.intOf]; omega
              | true =>
                have hst := Z1.out rfl
                go_wp2_with fail
                have hadd := Lib.hid (jM_stale 1000000 (allB 0 done) 0 e0 x (by omega) (by omega))
                go_region_held3 (fun W => W.cell? ⟨B, 0, none⟩ = some (.pointer (some ⟨j0, 0, none⟩)) ∧ W.cell? ⟨b, off + k, none⟩ = some (.slice aj x.length cj)) (first | exact ⟨y0, c1⟩ | exact SS.out) ((first
                  | (go_at_call 10; refine (two_add0 HS.out.drew aj x.length cj x (HXR.out.kept HS.out.below).drew (k := 9) (by rw [hadd.out.1]; rfl) hadd.out.2.1 hadd.out.2.2).mono ?_; rintro e wb ⟨rfl, SB, hsb, mb⟩; have HSB := Lib.hid hsb; have HPB := Lib.hid ((HP.out.kept (Below.refl _ _).drew).moved mb); have SS := Lib.hid (⟨(twoJ_cells hsb (fun _ h => h)).1, HC.out wb hsb.below⟩ : _ ∧ _); clear hsb mb)))
                clear HS HP hadd c1 c2 y0 y1 y2 y3 hTB
                have ⟨t0, t1, t2, t3, hTB2⟩ := twoJ_cells HSB.out (fun _ h => h)
                go_wp2
                go_roundw
                case rel => exact ⟨k + 1, done, vo, vc, by omega, by go_num, rfl, by omega, Lib.hid ⟨_, _, _, _, _, _, vs, SB, HSB.out, HPB.out, fun h => by simp at h, fun _ => hst, Z2.out, Z3.out, by have := BY.out; have := HNX.out; omega⟩⟩
                case measure => simp [RowKit.intOf]; omega
          · have h2' : (v : Int) % 2 = 1 := by omega
            have hlow : e0 < (allB 0 (done ++ [x])).length := by cases s0 with | false => (have := Z0.out rfl; omega) | true => (have := Z1.out rfl; omega)
            by_cases h3 : v % 3 = 0
            · have h3' : (v : Int) % 3 = 0 := by omega
              go_wp2_with fail
              refine (open_s HS.out nJ (by decide) (jM_miss _ _ _) (rs := done) (stop := (allB 0 done).length) (by rw [jM_all]; exact (read_all done).1) (by rw [jM_all]; exact (read_all done).2)).mono ?_
              rintro e w4 ⟨jn, a4, q4, S4, rfl, h4, m4, r4, _, _⟩
              have HS4 := Lib.hid h4
              have HP4 := Lib.hid (HP.out.moved m4)
              have HR4 := Lib.hid r4
              clear h4 m4 r4 HS HP c1 c2 y0 y1 y2 y3 hTB
              go_wp2_with fail
              obtain ⟨ao', cap', he, hrow⟩ := HP4.out.row HS4.out.below
              obtain ⟨rfl, -, rfl⟩ := Value.slice.inj he
              refine (sameRecords_same _ _ _ _ _ done w4 HR4.out hrow).mono ?_
              clear he hrow
              rintro e w5 ⟨rfl, b5⟩
              have HS5 := Lib.hid (HS4.out.kept b5)
              have HP5 := Lib.hid (HP4.out.kept b5)
              clear b5 HS4 HP4 HR4
              have ⟨y0, y1, y2, y3, hTB⟩ := twoJ_cells HS5.out (fun _ h => List.mem_cons_of_mem _ h)
              have ⟨f0, f1, f2, f3⟩ := twoJ_soft HS5.out (fun _ h => List.mem_cons_of_mem _ h)
              go_wp2_with fail
              clear y0 y1 y2 y3 hTB f0 f1 f2 f3
              obtain ⟨S6, h6, m6⟩ := two_open1 HS5.out
              generalize (w5.setCell ⟨B, 1, none⟩ (.pointer (some ⟨jn, 0, none⟩))).setCell ⟨T, 1, none⟩ (.bool false) = wr at *
              have HS := Lib.hid h6
              have HP := Lib.hid (HP5.out.moved m6)
              clear h6 m6 HS5 HP5
              have c1 := HC.out wr HS.out.below
              have c2 := HBC.out wr HS.out.below
              have ⟨y0, y1, y2, y3, hTB⟩ := twoJ_cells HS.out (fun _ h => h)
              have hadd := Lib.hid (jM_add 1000000 done 0 x (by omega) hfit (by omega))
              go_region_held3 (fun W => W.cell? ⟨B, 1, none⟩ = some (.pointer (some ⟨jn, 0, none⟩)) ∧ W.cell? ⟨b, off + k, none⟩ = some (.slice aj x.length cj)) (first | exact ⟨y1, c1⟩ | exact SS.out) ((first
                | (go_at_call 10; refine (two_add1 HS.out.drew aj x.length cj x (HXR.out.kept HS.out.below).drew (k := 0) (by rw [hadd.out.1]; rfl) hadd.out.2.1 hadd.out.2.2).mono ?_; rintro e wb ⟨rfl, SB, hsb, mb⟩; have HSB := Lib.hid hsb; have HPB := Lib.hid ((HP.out.kept (Below.refl _ _).drew).moved mb); have SS := Lib.hid (⟨(twoJ_cells hsb (fun _ h => h)).2.1, HC.out wb hsb.below⟩ : _ ∧ _); clear hsb mb)))
              clear HS HP hadd c1 c2 y0 y1 y2 y3 hTB
              have ⟨t0, t1, t2, t3, hTB2⟩ := twoJ_cells HSB.out (fun _ h => h)
              have cb := HC.out wb HSB.out.below
              go_wp2_with (at_builtin; refine wpList_put rfl _ _ rfl _ vs done aj cj x rfl wb rfl rfl HSB.out.below HSB.out.lt HPB.out HXR.out (by omega) ?_)
              clear t0 t1 t2 t3 hTB2 cb
              intro vo2 vc2 wc kc pc bc
              have HSC := Lib.hid (HSB.out.same kc bc)
              have HPC := Lib.hid pc
              clear kc pc bc HSB HPB
              have ⟨u0, u1, u2, u3, hTB3⟩ := twoJ_cells HSC.out (fun _ h => h)
              have ⟨f0, f1, f2, f3⟩ := twoJ_soft HSC.out (fun _ h => h)
              go_wp2
              go_roundw
              case rel =>
                have hf := two_flag0 HSC.out true
                exact ⟨k + 1, done ++ [x], vo2, vc2, by omega, by go_num, by rw [List.length_append]; rfl, by rw [List.length_append]; simp; omega, Lib.hid ⟨_, _, _, _, _, _, _, SB, hf.1, by rw [List.length_append]; exact HPC.out.moved hf.2, fun h => by simp at h, fun _ => hlow, fun _ => rfl, fun h => by simp at h, HROOM.out⟩⟩
              case measure => simp [RowKit.intOf]; omega
            · have h3' : ¬ (v : Int) % 3 = 0 := by omega
              cases s1 with
              | false =>
                obtain rfl := Z2.out rfl
                go_wp2_with fail
                have hadd := Lib.hid (jM_add 1000000 done 0 x (by omega) hfit (by omega))
                go_region_held3 (fun W => W.cell? ⟨B, 1, none⟩ = some (.pointer (some ⟨j1, 0, none⟩)) ∧ W.cell? ⟨b, off + k, none⟩ = some (.slice aj x.length cj)) (first | exact ⟨y1, c1⟩ | exact SS.out) ((first
                  | (go_at_call 10; refine (two_add1 HS.out.drew aj x.length cj x (HXR.out.kept HS.out.below).drew (k := 0) (by rw [hadd.out.1]; rfl) hadd.out.2.1 hadd.out.2.2).mono ?_; rintro e wb ⟨rfl, SB, hsb, mb⟩; have HSB := Lib.hid hsb; have HPB := Lib.hid ((HP.out.kept (Below.refl _ _).drew).moved mb); have SS := Lib.hid (⟨(twoJ_cells hsb (fun _ h => h)).2.1, HC.out wb hsb.below⟩ : _ ∧ _); clear hsb mb)))
                clear HS HP hadd c1 c2 y0 y1 y2 y3 hTB
                have ⟨t0, t1, t2, t3, hTB2⟩ := twoJ_cells HSB.out (fun _ h => h)
                have cb := HC.out wb HSB.out.below
                go_wp2_with (at_builtin; refine wpList_put rfl _ _ rfl _ vs done aj cj x rfl wb rfl rfl HSB.out.below HSB.out.lt HPB.out HXR.out (by omega) ?_)
                clear t0 t1 t2 t3 hTB2 cb
                intro vo2 vc2 wc kc pc bc
                have HSC := Lib.hid (HSB.out.same kc bc)
                have HPC := Lib.hid pc
                clear kc pc bc HSB HPB
                have ⟨u0, u1, u2, u3, hTB3⟩ := twoJ_cells HSC.out (fun _ h => h)
                have ⟨f0, f1, f2, f3⟩ := twoJ_soft HSC.out (fun _ h => h)
                go_wp2
                go_roundw
                case rel =>
                  have hf := two_flag0 HSC.out true
                  exact ⟨k + 1, done ++ [x], vo2, vc2, by omega, by go_num, by rw [List.length_append]; rfl, by rw [List.length_append]; simp; omega, Lib.hid ⟨_, _, _, _, _, _, _, SB, hf.1, by rw [List.length_append]; exact HPC.out.moved hf.2, fun h => by simp at h, fun _ => hlow, fun _ => rfl, fun h => by simp at h, HROOM.out⟩⟩
                case measure => simp [RowKit.intOf]; omega
              | true =>
                have hst := Z3.out rfl
                go_wp2_with fail
                have hadd := Lib.hid (jM_stale 1000000 (allB 0 done) 0 e1 x (by omega) (by omega))
                go_region_held3 (fun W => W.cell? ⟨B, 1, none⟩ = some (.pointer (some ⟨j1, 0, none⟩)) ∧ W.cell? ⟨b, off + k, none⟩ = some (.slice aj x.length cj)) (first | exact ⟨y1, c1⟩ | exact SS.out) ((first
                  | (go_at_call 10; refine (two_add1 HS.out.drew aj x.length cj x (HXR.out.kept HS.out.below).drew (k := 9) (by rw [hadd.out.1]; rfl) hadd.out.2.1 hadd.out.2.2).mono ?_; rintro e wb ⟨rfl, SB, hsb, mb⟩; have HSB := Lib.hid hsb; have HPB := Lib.hid ((HP.out.kept (Below.refl _ _).drew).moved mb); have SS := Lib.hid (⟨(twoJ_cells hsb (fun _ h => h)).2.1, HC.out wb hsb.below⟩ : _ ∧ _); clear hsb mb)))
                clear HS HP hadd c1 c2 y0 y1 y2 y3 hTB
                have ⟨t0, t1, t2, t3, hTB2⟩ := twoJ_cells HSB.out (fun _ h => h)
                go_wp2
                go_roundw
                case rel => exact ⟨k + 1, done, vo, vc, by omega, by go_num, rfl, by omega, Lib.hid ⟨_, _, _, _, _, _, vs, SB, HSB.out, HPB.out, Z0.out, Z1.out, fun h => by simp at h, fun _ => hst, by have := BY.out; have := HNX.out; omega⟩⟩
                case measure => simp [RowKit.intOf]; omega
        · obtain ⟨j0, j1, e0, e1, s0, s1, vs, S, hs, hp, _, _, _, _, _⟩ := HREL.out
          have HS := Lib.hid hs
          have HP := Lib.hid hp
          clear HREL hs hp
          obtain ⟨ao', cap', he, hrow⟩ := HP.out.row HS.out.below
          obtain ⟨rfl, -, rfl⟩ := Value.slice.inj he
          have HROW := Lib.hid hrow
          clear he hrow HP
          go_wp2_with fail
          refine (tells_x HS.out.x nJ (by decide) (jM_miss _ _ _) (rs := done) (by rw [jM_all]; exact (read_all done).1) _ _ _ HROW.out).mono ?_
          rintro e w4 ⟨rfl, b4⟩
          have HB := Lib.hid (HS.out.kept b4).below
          clear b4
          go_wp2
          go_ret
          exact ⟨rfl, HB.out⟩
end Go.Proofs.Ytkmanpmaflpgoaa
