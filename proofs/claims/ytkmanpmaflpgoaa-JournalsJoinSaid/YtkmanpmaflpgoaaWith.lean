/-
  WHAT IS PROVED: contracts: a directory with an entry, and without one; what is left of a file.
-/
import Derived.Test.YtkmanpmaflpgoaaClone
import Derived.Deep.RegionWith
namespace Go.Proofs.Ytkmanpmaflpgoaa
open Go.RowKit Go.Lib

theorem grown_none {w w1 w2 : World} {row : Option Nat} (h : Below w.heap.size w w1) (h' : w1.grownBy w2 row) : w.grownBy w2 row :=
  ⟨h'.os.trans h.os, h'.tape.trans h.tape, h'.output.trans h.output, Nat.le_trans h.size h'.size, fun k hk hr => (h'.block k (Nat.lt_of_lt_of_le hk h.size) hr).trans (h.block k hk)⟩

set_option maxRecDepth 100000 in
set_option maxHeartbeats 2000000 in
theorem with_new (fb : List Nat) (vn : Value) (l : Dir) (nm : ByteArray) (b : Nat) (w : World) (hown : w.ownsRow 0 72 2 vn l.length (ents fb l)) (hl : l.length ≤ 1000) (hr : Rise l) (ht : there l nm = false) (hs : nm.size ≤ 4294967296) :
    Calls Try.prog 37 #[vn, .string nm, .pointer (some ⟨b, 0, none⟩)] w (Rowed 0 vn (l.length + 1) ((ents fb l).take (place l nm * 2) ++ [.string nm, .pointer (some ⟨b, 0, none⟩)] ++ (ents fb l).drop (place l nm * 2)) w) := by
  have HO := Lib.hid hown
  have HR := Lib.hid hr
  have HT := Lib.hid ht
  have hpl := place_le l nm
  clear hown hr ht
  go_enter Try.func37, Try.ntmps37
  go_wp2_with fail
  refine (place_any fb vn l nm w (rowE_of HO.out) HR.out hl).mono ?_
  rintro e w1 ⟨rfl, hb1⟩
  rw [HT.out]
  have HB1 := Lib.hid hb1
  clear hb1
  go_wp2_with fail
  refine (strClone_any nm w1 hs).mono ?_
  rintro e w2 ⟨rfl, hb2⟩
  have HB2 := Lib.hid (below_next HB1.out hb2)
  clear hb2
  go_wp2_with fail
  have hb3 := HB2.out.trans ((Below.refl w.heap.size w2).alloc HB2.out.size (.cells #[.string nm, .pointer (some ⟨b, 0, none⟩)] 72))
  have ho3 : (w2.alloc (.cells #[.string nm, .pointer (some ⟨b, 0, none⟩)] 72)).ownsRow 0 72 2 vn l.length (ents fb l) := ownsRow_same HO.out (fun k hk => hb3.block k (HO.out.lt k hk).2)
  refine (insert_any 0 vn l.length (place l nm) (ents fb l) nm (.pointer (some ⟨b, 0, none⟩)) w2.heap.size _ ho3 hl (ents_one _ _) hpl (heap_alloc_new w2 _) rfl (fun h => by have := (HO.out.lt _ h).2; have := HB2.out.size; omega) (Nat.zero_le _)).mono ?_
  rintro e w3 ⟨v', rfl, h1, h2, h3⟩
  have HF : Hid (Rowed 0 vn (l.length + 1) ((ents fb l).take (place l nm * 2) ++ [.string nm, .pointer (some ⟨b, 0, none⟩)] ++ (ents fb l).drop (place l nm * 2)) w (.returned v') w3) := by
    refine ⟨v', rfl, h1, grown_none hb3 h2, ?_⟩
    rcases h3 with h3 | ⟨k, h3, h4⟩
    · exact .inl h3
    · exact .inr ⟨k, h3, by have := hb3.size; omega⟩
  clear h1 h2 h3 hb3 ho3
  go_wp2
  go_ret
  exact HF.out

set_option maxRecDepth 100000 in
set_option maxHeartbeats 2000000 in
theorem with_old (fb : List Nat) (vn : Value) (l : Dir) (nm : ByteArray) (b : Nat) (w : World) (hown : w.ownsRow 0 72 2 vn l.length (ents fb l)) (hl : l.length ≤ 1000) (hr : Rise l) (ht : there l nm = true) :
    Calls Try.prog 37 #[vn, .string nm, .pointer (some ⟨b, 0, none⟩)] w (Rowed 0 vn l.length ((ents fb l).set (place l nm * 2 + 1) (.pointer (some ⟨b, 0, none⟩))) w) := by
  have HO := Lib.hid hown
  have HR := Lib.hid hr
  have HT := Lib.hid ht
  obtain ⟨x, hx, _⟩ := there_get ht
  have hpl : place l nm < l.length := (List.getElem?_eq_some_iff.1 hx).1
  have hE := rowE_of hown
  obtain ⟨g, cap, rfl, hc1, hc2, hcell⟩ := hE.lies (by omega)
  obtain ⟨hx1, hx2⟩ := hcell _ _ hx
  clear hown hr ht hcell hx hE
  have HX2 := Lib.hid hx2
  clear hx1 hx2
  go_enter Try.func37, Try.ntmps37
  go_wp2_with fail
  refine (place_any fb _ l nm w (rowE_of HO.out) HR.out hl).mono ?_
  rintro e w1 ⟨rfl, hb1⟩
  rw [HT.out]
  have hx2 := (hb1.cell (p := ⟨g, place l nm * 2 + 1, none⟩) (World.block_lt_of_cell? w _ HX2.out)).trans HX2.out
  have ho1 : w1.ownsRow 0 72 2 (.slice (some ⟨g, 0, none⟩) l.length cap) l.length (ents fb l) := ownsRow_same HO.out (fun k hk => hb1.block k (HO.out.lt k hk).2)
  have hfz := ho1.frozenAt (place l nm * 2 + 1)
  obtain ⟨hs1, hs2⟩ := ho1.stored (place l nm * 2 + 1) (.pointer (some ⟨b, 0, none⟩))
  have HF : Hid (Rowed 0 (.slice (some ⟨g, 0, none⟩) l.length cap) l.length ((ents fb l).set (place l nm * 2 + 1) (.pointer (some ⟨b, 0, none⟩))) w (.returned (.slice (some ⟨g, 0, none⟩) l.length cap)) (w1.setCell ⟨g, place l nm * 2 + 1, none⟩ (.pointer (some ⟨b, 0, none⟩)))) :=
    ⟨_, rfl, hs1, grown_none hb1 hs2, .inl rfl⟩
  clear ho1 hs1 hs2 hb1
  go_wp2
  go_ret
  exact HF.out

set_option maxRecDepth 100000 in
set_option maxHeartbeats 2000000 in
theorem without_any (vn : Value) (n i : Nat) (xs : List Value) (w : World) (hown : w.ownsRow 0 72 2 vn n xs) (hl : n ≤ 1000) (hx : ∀ u ∈ xs, u.oneCell' = true) (hi : i < n) :
    Calls Try.prog 40 #[vn, .int .i64 i] w (Rowed 0 vn (n - 1) (xs.take (i * 2) ++ xs.drop ((i + 1) * 2)) w) := by
  rcases hown.2 with ⟨rfl, h0⟩ | ⟨g, cap, cur, rfl, _⟩
  · omega
  · have HO := Lib.hid hown
    have HX := Lib.hid hx
    clear hown hx
    go_enter Try.func40, Try.ntmps40
    go_wp2_with fail
    refine (delete_any 0 g n cap i xs w HO.out hl HX.out hi).mono ?_
    rintro e w1 ⟨v', rfl, h1, h2, h3⟩
    have HF : Hid (Rowed 0 (.slice (some ⟨g, 0, none⟩) n cap) (n - 1) (xs.take (i * 2) ++ xs.drop ((i + 1) * 2)) w (.returned v') w1) := ⟨v', rfl, h1, h2, h3⟩
    clear h1 h2 h3
    go_wp2
    go_ret
    exact HF.out
end Go.Proofs.Ytkmanpmaflpgoaa
